/-
  A range over a function that itself ranges over another one: what such a function promises, and the loop over it. What Buildings hands back goes through: the buildings, by rising number. The document's Map. A region that draws its order and makes memory, in a round of a loop over a function: what the walk outside a fence gives is enough. phalanxlaw04.Is: both worlds are the same. phalanxlaw04.GridEdits, walked.
-/
import Derived.Test.YtobjadfchpgjeaaCellsSeq
import Derived.Test.YtobjadfchpgjeaaUndo
import Derived.Test.YtobjadfchpgjeaaSame
import Derived.Test.YtobjadfchpgjeaaLatIn
import Derived.Deep.RegionHeld
import Derived.RangeFuncCalls
import Derived.Test.YtobjadfchpgjeaaStand
import Derived.Test.YtobjadfchpgjeaaUndoWalk
namespace Go.Proofs.Ytobjadfchpgjeaa
open Go.RowKit Go.Shelf
set_option linter.unusedVariables false
/-- What lay from block B on lies as it lay. -/
def Keep (B : Nat) (W W' : World) : Prop := W.heap.size ≤ W'.heap.size ∧ ∀ k, B ≤ k → k < W.heap.size → W'.heap[k]? = W.heap[k]?
theorem Keep.refl (B : Nat) (W : World) : Keep B W W := ⟨Nat.le_refl _, fun _ _ _ => rfl⟩
theorem Keep.trans {B : Nat} {X Y Z : World} (h : Keep B X Y) (k : Keep B Y Z) : Keep B X Z := ⟨Nat.le_trans h.1 k.1, fun i hi hl => (k.2 i hi (Nat.lt_of_lt_of_le hl h.1)).trans (h.2 i hi hl)⟩
theorem Keep.mono {B C : Nat} {X Y : World} (h : Keep B X Y) (hB : B ≤ C) : Keep C X Y := ⟨h.1, fun i hi => h.2 i (Nat.le_trans hB hi)⟩
theorem Keep.at {B : Nat} {X Y : World} (h : Keep B X Y) {k : Nat} {o : Obj} (hB : B ≤ k) (hk : X.heap[k]? = some o) : Y.heap[k]? = some o := (h.2 k hB (Array.getElem?_eq_some_iff.1 hk).1).trans hk
theorem Keep.from {B : Nat} {X Y : World} (h : Keep B X Y) : KeepsFrom B X Y := ⟨h.1, fun k o hB hk _ => h.at hB hk⟩
theorem Keep.of_below {B : Nat} {X Y : World} (h : Below X.heap.size X Y) : Keep B X Y := ⟨h.size, fun k _ hk => h.block k hk⟩
theorem Keep.put {B : Nat} (X : World) {l : Nat} (o : Obj) (hl : l < B) : Keep B X (X.putObj l o) := ⟨by simp, fun k hB _ => World.putObj_heap_other (by omega)⟩
theorem Keep.set {B : Nat} (X : World) {p : Addr} (u : Value) (hp : p.block < B) : Keep B X (X.setCell p u) := ⟨by simp [World.setCell], fun k hB _ => Below.heap_setCell _ _ _ _ (by omega)⟩
/-- What an iterator promises that may keep records of its own: the rounds leave what it has laid. -/
def SeqOwn {α : Type} (n : Nat) (g : Nat) (lb : Array Value) (encs : α → Array Value) (Kp : World → World → Prop) (S Sp : List α → Prop) (N : Nat) (w : World) : Prop :=
  ∀ (l : Nat) (J Jx : List α → World → Prop) (W : World), Below w.heap.size w W → OwnFrom W.heap.size J → OwnFrom W.heap.size Jx →
    (∀ pre x X, J pre X → pre.length < N → YieldAt Fence.wide (n - 1) Try.prog l (encs x) X fun e Y =>
      Keep W.heap.size X Y ∧ ((e = .returned (.bool true) ∧ J (pre ++ [x]) Y ∧ Kp X Y) ∨ (e = .returned (.bool false) ∧ Jx (pre ++ [x]) Y))) →
    J [] W →
    CallsIn Fence.wide n Try.prog g (#[.func (.yield l) #[] #[]] ++ lb) W fun e Y => (∃ v, e = .returned v) ∧ ((∃ xs, S xs ∧ J xs Y) ∨ (∃ pre, Sp pre ∧ Jx pre Y))
def nestPost {α : Type} (B : Nat) (Kp : World → World → Prop) (I Ix : List α → World → Prop) (xs : List α) (X : World) : Exit → Act → World → Prop
  | .normal, _, Y => Keep B X Y ∧ Kp X Y ∧ I xs Y
  | .ret, _, Y => Keep B X Y ∧ Ix xs Y
  | _, _, _ => False
theorem range_nest {α : Type} {n : Nat} {g : Operand} {ps : Array Tmp} {assign body : Code} {Q : Exit → Act → World → Prop} {a : Act} {w w0 : World} (h1 : 1 ≤ n) {gf : Nat} {lb : Array Value}
    (hg : a.eval g = .func (.func gf) #[] lb) (eg : ∀ args w, (callFunc gf args).run Try.prog w = .ok (.enter gf args) w)
    {encs : α → Array Value} {Kp : World → World → Prop} {S Sp : List α → Prop} {N : Nat} (hseq : SeqOwn (n - 1) gf lb encs Kp S Sp N w0)
    (hKt : ∀ {A B C : World}, Kp A B → Kp B C → Kp A C) (hKb : ∀ (W : World) (l : Nat) (o o' : Obj), w.heap.size ≤ l → W.heap[l]? = some o → o.isCells = false → o.isWalk = false → Kp W (W.putObj l o'))
    (hb0 : Below w0.heap.size w0 w) (hps : ∀ x, (encs x).size = ps.size)
    (I Ix : List α → World → Prop) (hI : OwnFrom w.heap.size I) (hIx : OwnFrom w.heap.size Ix) (h0 : I [] w) (Ax : α → Act → World → Prop) (hAx : ∀ x a', OwnFrom w.heap.size (fun (_ : Unit) W => Ax x a' W))
    (hassign : ∀ (l : Nat) (pre : List α) (x : α) (W : World) (K : Act → World → Prop), I pre W → (∀ a' W', Keep w.heap.size W W' → Kp W W' → I pre W' → Ax x a' W' → K a' W') →
      assign.wpIn (Fence.wide.inRound l) (n - 1 - 1) Try.prog (Exit.then K (fun _ _ _ => False)) { tmps := (ps.zip (encs x)).foldl (fun t (p, v) => t.setIfInBounds p v) a.tmps, defers := [] } W)
    (hbody : ∀ (l : Nat) (pre : List α) (x : α) (a' : Act) (W : World), w.heap.size ≤ l → I pre W → Ax x a' W → pre.length < N → body.wpIn (Fence.wide.inRound l) (n - 1 - 1) Try.prog (nestPost w.heap.size Kp I Ix (pre ++ [x]) W) a' W)
    (hdone : ∀ (D : Nat) (xs : List α) (W : World), w.heap.size ≤ D → S xs → I xs W → W.heap[D]? = some (.deferred (some [])) → Q .normal { a with defers := { target := .collected D, args := #[] } :: a.defers } W)
    (hstop : ∀ (D : Nat) (pre : List α) (W : World), w.heap.size ≤ D → Sp pre → Ix pre W → W.heap[D]? = some (.deferred (some [])) → Code.ret.wpIn Fence.wide n Try.prog Q { a with defers := { target := .collected D, args := #[] } :: a.defers } W) :
    (Code.rangeFunc g ps assign body).wpIn Fence.wide n Try.prog Q a w := by
  refine wpIn_rangeFunc (fun fn hfn => ?_)
  generalize hrc : (fun st pe => ({ state := st, pending := pe, fn := fn, tmps := a.tmps, params := ps, assign := assign, body := body, defers := w.heap.size } : Loop)) = rc
  generalize hV : (w.alloc (.deferred (some []))).alloc (.loop (rc .ready none)) = V
  have zV : V.heap.size = w.heap.size + 1 + 1 := by rw [← hV]; simp
  have bV : Below w.heap.size w V := by rw [← hV]; exact box2 _ _ _
  have lV : V.heap[w.heap.size + 1]? = some (.loop (rc .ready none)) := by rw [← hV]; have := World.alloc_heap_new (w.alloc (.deferred (some []))) (.loop (rc .ready none)); rwa [World.size_alloc] at this
  have dV : V.heap[w.heap.size]? = some (.deferred (some [])) := by rw [← hV]; exact (Below.heap_alloc _ _ _ (by simp)).trans (World.alloc_heap_new w _)
  have iV : I [] V := hI _ _ _ none h0 (below_grown bV) (fun r e => by cases e)
  -- the records, in whatever state the loop is
  let Bk : LoopState → Option Code → World → Prop := fun st pe X => X.heap[w.heap.size + 1]? = some (.loop (rc st pe)) ∧ X.heap[w.heap.size]? = some (.deferred (some []))
  have ownB : ∀ st pe, OwnFrom V.heap.size (fun (_ : List α) X => Bk st pe X) := fun st pe s X Y row hs hgr hr =>
    ⟨(hgr.block _ (Array.getElem?_eq_some_iff.1 hs.1).1 (fun e => by have := (hr _ e.symm).1; omega)).trans hs.1, (hgr.block _ (Array.getElem?_eq_some_iff.1 hs.2).1 (fun e => by have := (hr _ e.symm).1; omega)).trans hs.2⟩
  have wide : ∀ {J : List α → World → Prop}, OwnFrom w.heap.size J → OwnFrom V.heap.size J := fun h s X Y row hs hgr hr => h s X Y row hs hgr (fun r e => ⟨by have := (hr r e).1; omega, (hr r e).2⟩)
  have turn : ∀ {X : World} {st pe} (st' : LoopState) (pe' : Option Code), Bk st pe X → Bk st' pe' (X.putObj (w.heap.size + 1) (.loop (rc st' pe'))) := fun st' pe' h =>
    ⟨World.putObj_heap_same (Array.getElem?_eq_some_iff.1 h.1).1, (World.putObj_heap_other (by omega)).trans h.2⟩
  refine ⟨w.heap.size + 1, [{ target := .collected w.heap.size, args := #[] }], V, { target := .fn (.func gf) lb, args := #[.func (.yield (w.heap.size + 1)) #[] #[]] }, V, gf, #[.func (.yield (w.heap.size + 1)) #[] #[]] ++ lb, V, ?_, ?_, fun _ _ => trivial, ?_, fun _ => h1, ?_⟩
  · rw [← hV, ← hrc]; exact run_enterLoop_outer _ _ _ _ _
  · simp only [resolve, hg]; simp [go_sem]
  · simp [invoke, go_sem, eg]
  refine (hseq (w.heap.size + 1) (fun pre X => I pre X ∧ Bk .ready none X) (fun pre X => Ix pre X ∧ Bk .done (some .ret) X) V (hb0.trans (bV.mono hb0.size))
    (OwnFrom.and (wide hI) (ownB _ _)) (OwnFrom.and (wide hIx) (ownB _ _)) ?_ ⟨iV, lV, dV⟩).mono ?_
  · rintro pre x X ⟨iX, bX⟩ hlen
    have hy := run_yield (P := Try.prog) (args := encs x) bX.1 (by rw [← hrc]; exact hps x)
    rw [← hrc] at hy
    refine ⟨fn, _, assign, body, hy, roundIn_of_wpIn trivial (hassign _ pre x X _ iX ?_)⟩
    intro a' Y kY kpY iY axY
    have bY : Bk .ready none Y := ⟨kY.at (by omega) bX.1, kY.at (Nat.le_refl _) bX.2⟩
    refine ⟨_, run_beginRound bY.1 (by rw [← hrc]), ?_⟩
    rw [show (Obj.loop { rc .ready none with state := .busy }) = .loop (rc .busy none) by rw [← hrc]]
    have bZ := turn .busy none bY
    refine wpIn_mono (hbody _ pre x a' _ (by omega) (hI.putObj _ iY (by omega) bY.1 rfl) ((hAx x a').putObj (s := ()) _ axY (by omega) bY.1 rfl) hlen) ?_
    have fin : ∀ (j : Option Code) (U : World), Keep w.heap.size (Y.putObj (w.heap.size + 1) (.loop (rc .busy none))) U →
        (Instr.endRound (w.heap.size + 1) j).run Try.prog U = .ok (.bool j.isNone) (U.putObj (w.heap.size + 1) (.loop (rc (if j.isNone then .ready else .done) j))) ∧ Bk .busy none U := fun j U kU => by
      have bU : Bk .busy none U := ⟨kU.at (by omega) bZ.1, kU.at (Nat.le_refl _) bZ.2⟩
      refine ⟨?_, bU⟩
      have := run_endRound (P := Try.prog) j bU.1
      rw [← hrc] at this ⊢
      exact this
    have kept : ∀ {U : World} (o : Obj), Keep w.heap.size (Y.putObj (w.heap.size + 1) (.loop (rc .busy none))) U → Keep V.heap.size X (U.putObj (w.heap.size + 1) o) := fun o kU =>
      ((kY.mono (by omega)).trans (Keep.put _ _ (by omega))).trans ((kU.mono (by omega)).trans (Keep.put _ _ (by omega)))
    rintro e a3 U hp
    cases e with
    | normal =>
      obtain ⟨kU, kpU, iU⟩ := hp
      obtain ⟨hr, bU⟩ := fin none U kU
      exact ⟨_, _, hr, kept _ kU, .inl ⟨rfl, ⟨hI.putObj _ iU (by omega) bU.1 rfl, turn _ _ bU⟩, hKt kpY (hKt (hKt (hKb _ _ _ _ (by omega) bY.1 rfl rfl) kpU) (hKb _ _ _ _ (by omega) bU.1 rfl rfl))⟩⟩
    | ret =>
      obtain ⟨kU, iU⟩ := hp
      obtain ⟨hr, bU⟩ := fin (some .ret) U kU
      exact ⟨_, _, hr, kept _ kU, .inr ⟨rfl, hIx.putObj _ iU (by omega) bU.1 rfl, turn _ _ bU⟩⟩
    | exit id => exact hp.elim
    | goto t => exact hp.elim
    | panic ch => exact hp.elim
    | outgrown => exact hp.elim
  · rintro e U ⟨⟨v, rfl⟩, (⟨xs, hS, iU, bU⟩ | ⟨pre, hS, iU, bU⟩)⟩
    · refine ⟨none, _, ?_, hdone _ xs _ (Nat.le_refl _) hS (hI.putObj (.loop (rc .exhausted none)) iU (by omega) bU.1 rfl) (turn .exhausted none bU).2⟩
      have := run_endLoop (P := Try.prog) bU.1 (by rw [← hrc]; simp)
      rw [← hrc] at this ⊢
      exact this
    · refine ⟨some .ret, _, ?_, hstop _ pre _ (Nat.le_refl _) hS (hIx.putObj (.loop (rc .exhausted (some .ret))) iU (by omega) bU.1 rfl) (turn .exhausted (some .ret) bU).2⟩
      have := run_endLoop (P := Try.prog) bU.1 (by rw [← hrc]; simp)
      rw [← hrc] at this ⊢
      exact this
end Go.Proofs.Ytobjadfchpgjeaa
set_option linter.unusedSimpArgs false
namespace Go.Proofs.Ytobjadfchpgjeaa
open Go.RowKit Go.Shelf
set_option linter.unusedVariables false
attribute [local go_sem] Oper.semAt_some
abbrev encB (t : Bd) : Array Value := #[t.v]
/-- The box of a pointer to a World. -/
def PBx (w : World) (h p : Nat) : Prop := w.heap[h]? = some (.cells #[ptr p] 27 (0, 0))
theorem PBx.c {w : World} {h p : Nat} (a : PBx w h p) : w.cell? ⟨h, 0, none⟩ = some (ptr p) := cell_of_row w h 0 _ _ _ a
theorem PBx.lt {w : World} {h p : Nat} (a : PBx w h p) : h < w.heap.size := (Array.getElem?_eq_some_iff.1 a).1
theorem PBx.kept {w w' : World} {h p : Nat} (a : PBx w h p) (b : Below w.heap.size w w') : PBx w' h p := (b.block h a.lt).trans a
theorem own_below' {β : Type} {B : Nat} {J : β → World → Prop} (hJ : OwnFrom B J) {s : β} {W W' : World} (hs : J s W) (h : Below W.heap.size W W') : J s W' := hJ s W W' none hs (below_grown h) (fun r e => by cases e)
set_option maxRecDepth 100000 in
set_option maxHeartbeats 2000000 in
theorem blds_seq (n p h : Nat) (W_ H : Int) (tl : List Nat) (L : List Bd) (es : List Rc) (bm m : Nat) (tv bv ev : Value) (w : World) (hn : 1 ≤ n) (hB : PBx w h p) (hP : Pa w p W_ H tl L es bm m tv bv ev) (hlen : L.length ≤ 256) :
    SeqOwn n 54 #[ptr h] encB (fun _ _ => True) (fun xs => xs = L) (fun pre => pre <+: L) 256 w := fun l J Jx V hV hJ hJx hY h0 => by
  refine callsIn_of_wp Try.func54 rfl trivial ?_ rfl
  simp only [Try.ntmps54, List.size_toArray, List.length_cons, List.length_nil, Nat.reduceAdd, Nat.reduceSub, Array.replicate_succ, Array.replicate_zero, List.push_toArray, List.append_toArray, List.nil_append, List.cons_append]
  have BX := hB.kept hV
  have PX := hP.below hV
  have c0 := BX.c
  have c2 : V.cell? ⟨p, 5, none⟩ = some bv := PX.d.c 5
  have HMd := hide (made_is PX.d)
  have HCl := hide (clone23 L bv V PX.b hlen)
  obtain ⟨ab, capb, rfl, -, -⟩ := PX.b.form
  clear BX PX
  gi_wp2_with fail
  refine ⟨trivial, ?_⟩
  refine (callsIn_wide.2 HMd.out).mono ?_
  rintro e Z ⟨rfl, hz⟩
  rw [hz]
  clear hz Z HMd
  gi_wp2_with fail
  refine ⟨trivial, ?_⟩
  refine (callsIn_wide.2 HCl.out).mono ?_
  rintro e w1 ⟨a1, cap1, rfl, hr, hb1, hf1⟩
  have hR : Bds w1 (.slice a1 L.length cap1) L := hr
  have hat : ∀ (i : Nat) t, L[i]? = some t → BdAt w1 a1 i t := by
    obtain ⟨a', cap', e, -, -, h3⟩ := hR.form
    cases e
    exact h3
  have hcl : L.length ≤ cap1 ∧ cap1 ≤ maxLen := by
    obtain ⟨a', cap', e, h1, h2, -⟩ := hR.form
    cases e
    exact ⟨h1, h2⟩
  have kl : (0 : Int) ≤ (L.length : Nat) ∧ ((L.length : Nat) : Int) ≤ 256 := by omega
  have hge : ∀ g, a1 = some ⟨g, 0, none⟩ → V.heap.size ≤ g := fun g e => hf1 g (by rw [e]; rfl)
  have j1 : J [] w1 := own_below' hJ h0 hb1
  have Hat := hide hat
  have Hge := hide hge
  clear HCl c0 c2 hr hR hat hge hf1
  gi_wp2_with fail
  gi_loopw [14] (fun d wr => ∃ k : Nat, k ≤ L.length ∧ d = .int .i64 k ∧ J (L.take k) wr ∧ Keep V.heap.size w1 wr) (fun d _ => L.length - (intOf d).toNat)
  case atStart => exact ⟨0, Nat.zero_le _, rfl, by rw [List.take_zero]; exact j1, Keep.refl _ _⟩
  case round =>
    obtain ⟨k, hk, rfl, hJk, hKk⟩ := hrel
    by_cases hlt : k < L.length
    · obtain ⟨t, ht⟩ : ∃ t, L[k]? = some t := ⟨_, List.getElem?_eq_getElem hlt⟩
      obtain ⟨g, rfl, hg, d0, d1, d2, d3, d4⟩ := Hat.out k t ht
      have hgb : wr.heap[g]? = w1.heap[g]? := hKk.2 g (Hge.out g rfl) hg
      have hcc := fun o => World.cell?_of_block (a := ⟨g, o, none⟩) hgb
      have e0 := (hcc _).trans d0
      have e1 := (hcc _).trans d1
      have e2 := (hcc _).trans d2
      have e3 := (hcc _).trans d3
      have e4 := (hcc _).trans d4
      have htk : L.take (k + 1) = L.take k ++ [t] := by rw [List.take_add_one, ht]; rfl
      have hlk : (L.take k).length = k := by rw [List.length_take]; omega
      have hki : (k : Int) < (L.length : Nat) := by omega
      have B5 : Below wr.heap.size wr (wr.alloc (.cells #[.int .i64 t.id, .int .i64 t.x, .int .i64 t.y, .int .i64 t.a, .int .i64 t.b] 55)) := box1 _ _
      have F5 : Five (wr.alloc (.cells #[.int .i64 t.id, .int .i64 t.x, .int .i64 t.y, .int .i64 t.a, .int .i64 t.b] 55)) wr.heap.size t := heap_alloc_new wr _
      obtain ⟨fn, tmps, assign, body, hy, hRd⟩ := hY (L.take k) t _ (own_below' hJ hJk B5) (by omega)
      have f0 := F5.c 0
      have f1 := F5.c 1
      have f2 := F5.c 2
      have f3 := F5.c 3
      have f4 := F5.c 4
      simp only [Bd.cs, List.getElem?_cons_zero, List.getElem?_cons_succ] at f0 f1 f2 f3 f4
      dsimp only [encB] at hy
      have HKk := hide (hKk.trans (Keep.of_below B5))
      have HRd := hide hRd
      clear hcc hgb d0 d1 d2 d3 d4 F5 B5 hKk hRd
      gi_wp2_with fail
      refine HRd.out.mono ?_
      rintro e W3 ⟨hk3, (⟨rfl, hJ3, -⟩ | ⟨rfl, hJx3⟩)⟩
      · have HJ3 := hide hJ3
        have HK3 := hide (HKk.out.trans hk3)
        clear hJ3 hk3 f0 f1 f2 f3 f4 hy
        gi_wp2_with fail
        go_roundw
        case rel => exact ⟨k + 1, by omega, by go_num, by rw [htk]; exact HJ3.out, HK3.out⟩
        case measure => simp [intOf]; omega
      · have HJx := hide hJx3
        clear hJx3 hk3 f0 f1 f2 f3 f4 hy
        gi_wp2_with fail
        refine bodyPost_ret (results_none rfl _ _ _) rfl ?_
        exact ⟨⟨_, rfl⟩, .inr ⟨_, by rw [← htk]; exact List.take_prefix _ _, HJx.out⟩⟩
    · have hkb : k = L.length := by omega
      subst hkb
      gi_wp2_with fail
      go_end0
      exact ⟨⟨_, rfl⟩, .inl ⟨_, by rw [List.take_length], hJk⟩⟩
end Go.Proofs.Ytobjadfchpgjeaa
set_option linter.unusedSimpArgs false
namespace Go.Proofs.Ytobjadfchpgjeaa
open Go.RowKit
set_option linter.unusedVariables false
theorem MB.lt {w : World} {k : Nat} {W H : Int} {tv bv : Value} (h : MB w k W H tv bv) : k < w.heap.size := (Array.getElem?_eq_some_iff.1 h).1
theorem MB.f {w : World} {k : Nat} {W H : Int} {tv bv : Value} (h : MB w k W H tv bv) (j : Nat) : w.frozen? ⟨k, j, none⟩ = false := by
  simp only [MB] at h
  simp [World.frozen?, h]
theorem MB.set2 {w : World} {k : Nat} {W H : Int} {tv bv : Value} (h : MB w k W H tv bv) (v : Value) : MB (w.setCell ⟨k, 2, none⟩ v) k W H v bv := by
  simp only [MB] at h ⊢
  simp [World.setCell, Array.getElem?_modify, h]
theorem MB.set3 {w : World} {k : Nat} {W H : Int} {tv bv : Value} (h : MB w k W H tv bv) (v : Value) : MB (w.setCell ⟨k, 3, none⟩ v) k W H tv v := by
  simp only [MB] at h ⊢
  simp [World.setCell, Array.getElem?_modify, h]
theorem MB.set4 {w : World} {k : Nat} {W H : Int} {tv bv : Value} (h : MB w k W H tv bv) (W' H' : Int) (a b : Value) : MB ((((w.setCell ⟨k, 0, none⟩ (.int .i64 W')).setCell ⟨k, 1, none⟩ (.int .i64 H')).setCell ⟨k, 2, none⟩ a).setCell ⟨k, 3, none⟩ b) k W' H' a b := by
  simp only [MB] at h ⊢
  simp [World.setCell, Array.getElem?_modify, h]
theorem MB.own (X : World) {n : Nat} (h : X.heap.size = n) (W H : Int) : MB (X.alloc (.cells #[.int .i64 W, .int .i64 H, .slice none 0 0, .slice none 0 0] 25)).drew n W H (.slice none 0 0) (.slice none 0 0) := by
  subst h
  exact heap_alloc_new X _
theorem MB_row {w : World} {q : Nat} {W H : Int} {a b : Value} (h : MB w q W H a b) {v : Value} {e : TypeId} {k n : Nat} {xs : List Value} (hv : w.ownsRow 0 e k v n xs) (he : e ≠ 25) : v.ownBlock ≠ some q := by
  intro hh
  rcases hv.2 with ⟨rfl, _⟩ | ⟨g, cap, cur, rfl, hb, hg, _⟩
  · simp [Value.ownBlock] at hh
  · simp [Value.ownBlock] at hh
    subst hh
    rw [show w.heap[g]? = _ from h] at hg
    simp at hg
    exact he hg.2.symm
set_option maxRecDepth 100000 in
set_option maxHeartbeats 4000000 in
theorem refmap_any (r : Nat) (W H : Int) (rt rb re : Value) (tl : List Nat) (L : List Bd) (w : World) (hd : Rd w r W H rt rb re) (hv : Tls w rt tl) (hl : Bds w rb L) (htl : tl.length ≤ 16384) (hlen : L.length ≤ 256) :
    Calls Try.prog 35 #[ptr r] w fun e w' => ∃ tv' bv', e = .returned (mp W H tv' bv') ∧ Tls w' tv' tl ∧ Bds w' bv' L ∧ Below w.heap.size w w' := by
  have B0 : Below w.heap.size w (w.alloc (.cells #[.int .i64 0, .int .i64 0, .slice none 0 0, .slice none 0 0] 25)) := box1 _ _
  have M0 : MB (w.alloc (.cells #[.int .i64 0, .int .i64 0, .slice none 0 0, .slice none 0 0] 25)) w.heap.size 0 0 (.slice none 0 0) (.slice none 0 0) := heap_alloc_new w _
  have z0 : (w.alloc (.cells #[.int .i64 0, .int .i64 0, .slice none 0 0, .slice none 0 0] 25)).heap.size = w.heap.size + 1 := by simp
  obtain ⟨X, hX⟩ : ∃ X, w.alloc (.cells #[.int .i64 0, .int .i64 0, .slice none 0 0, .slice none 0 0] 25) = X := ⟨_, rfl⟩
  rw [hX] at B0 M0 z0
  have hr := hd.lt
  have HD : Hid (∀ wx, Below X.heap.size X wx → Rd wx r W H rt rb re) := hide fun wx hx => (hd.kept (Turns.of_below (S := NoB) B0) id).kept (Turns.of_below (S := NoB) hx) id
  have HV : Hid (∀ wx, Below X.heap.size X wx → TlR wx rt tl) := hide fun wx hx => (hv.r.kept B0).kept hx
  have HL : Hid (∀ wx, Below X.heap.size X wx → BdR wx rb L) := hide fun wx hx => (hl.r.kept B0).kept hx
  obtain ⟨a1, cap1, rfl, -, -, h01, -⟩ := hv.r
  obtain ⟨a2, cap2, rfl, -, -, h02, -⟩ := hl.r
  clear hd hv hl
  have HS : Hid (∀ wx, Below X.heap.size X wx → (wx.cell? ⟨r, 0, none⟩ = some (.int .i64 W) ∧ wx.cell? ⟨r, 1, none⟩ = some (.int .i64 H)) ∧ wx.cell? ⟨r, 2, none⟩ = some (.slice a1 tl.length cap1) ∧ wx.cell? ⟨r, 3, none⟩ = some (.slice a2 L.length cap2)) := hide fun wx hx => ⟨⟨(HD.out wx hx).c 0, (HD.out wx hx).c 1⟩, (HD.out wx hx).c 2, (HD.out wx hx).c 3⟩
  go_enter Try.func35, Try.ntmps35
  go_wp2_with fail
  clear hX
  refine Code.wp_mono (Q := Only (fun a' w' => (MB w' (w.heap.size + 1) W H (.slice none 0 0) (.slice none 0 0) ∧ Below X.heap.size X w') ∧ a' = { tmps := #[ptr r, undef, ptr w.heap.size, ptr (w.heap.size + 1), ptr r, ptr r, .pointer (some ⟨r, 0, none⟩), .int .i64 W, ptr r, ptr r, .pointer (some ⟨r, 1, none⟩), .int .i64 H, mp W H (.slice none 0 0) (.slice none 0 0), undef, undef, undef, undef, undef, undef, undef, undef, undef, undef, undef, undef, undef, undef, undef, undef, undef], defers := [] })) ?rest1 ?_
  case rest1 =>
    rintro (_ | _ | _ | _ | _) a' Y hO
    all_goals first | exact hO.elim | skip
    obtain ⟨⟨MY, BY⟩, rfl⟩ := hO
    obtain ⟨f5, hf5, hz5, hs5, hb5⟩ := info_parts info5
    obtain ⟨f92, hf92, hz92, hs92, hb92⟩ := info_parts info55
    obtain ⟨a3, cap3, w3, hrun3, hown3, hB3, hfr3⟩ := append_row Y.drew 22 22 5 f5 (.int .u8 0) 1 1 Try.underlying22 hf5 hz5 hs5 hb5 rfl (by decide) (append_nil33 _ _) a1 cap1 tl.length _ (by simp) h01 ((HV.out _ BY).cellsAt) one_tl (by unfold maxLen; omega) (by omega)
    have B3 : Below Y.heap.size Y w3 := below_undrew hB3
    have M3 := MY.kept B3
    have BX3 := bt BY B3
    have zY := BY.size
    have z3 := B3.size
    have y2 : Y.cell? ⟨w.heap.size + 1, 2, none⟩ = some (.slice none 0 0) := MY.c.2.2.1
    have x2 : w3.cell? ⟨w.heap.size + 1, 2, none⟩ = some (.slice none 0 0) := M3.c.2.2.1
    have q2 := M3.f 2
    have TS3 : Turns (fun j => j = w.heap.size + 1) w3 (w3.setCell ⟨w.heap.size + 1, 2, none⟩ (.slice a3 tl.length cap3)) := Turns.set (S := fun j => j = w.heap.size + 1) w3 (p := ⟨w.heap.size + 1, 2, none⟩) rfl _
    have o3 : ∀ k, (Value.slice a3 tl.length cap3).ownBlock = some k → k ≠ w.heap.size + 1 := fun k e h => by have h1 := hfr3 k e; have h2 := MY.lt; have h4 : Y.drew.heap.size = Y.heap.size := rfl; omega
    have T4 : Tls (w3.setCell ⟨w.heap.size + 1, 2, none⟩ (.slice a3 tl.length cap3)) (.slice a3 tl.length cap3) tl := Tls.kept (show Tls w3 (.slice a3 tl.length cap3) tl from hown3) TS3 (fun k e h => o3 k e h)
    have M4 := M3.set2 (.slice a3 tl.length cap3)
    have B4 : Below X.heap.size X (w3.setCell ⟨w.heap.size + 1, 2, none⟩ (.slice a3 tl.length cap3)) := BX3.setCell (p := ⟨w.heap.size + 1, 2, none⟩) (by simp; omega) _
    have HN4 := hide (And.intro T4 (And.intro M4 B4))
    have Ho3 := hide o3
    have HS2 : Hid (∀ wx, wx = Y ∨ wx = w3 ∨ wx = w3.setCell ⟨w.heap.size + 1, 2, none⟩ (.slice a3 tl.length cap3) → (wx.cell? ⟨r, 0, none⟩ = some (.int .i64 W) ∧ wx.cell? ⟨r, 1, none⟩ = some (.int .i64 H)) ∧ wx.cell? ⟨r, 2, none⟩ = some (.slice a1 tl.length cap1) ∧ wx.cell? ⟨r, 3, none⟩ = some (.slice a2 L.length cap2)) := hide fun wx h => HS.out wx (by rcases h with rfl | rfl | rfl <;> assumption)
    clear hown3 hfr3 hB3 T4 M4 B4 TS3 o3 M3 MY
    go_wp2_with fail
    refine Code.wp_mono (Q := Only (fun a' w' => w' = w3.setCell ⟨w.heap.size + 1, 2, none⟩ (.slice a3 tl.length cap3) ∧ ∃ u13 u14 u15 u16 u17 u18 u19 u20, a' = { tmps := #[ptr r, undef, ptr w.heap.size, ptr (w.heap.size + 1), ptr r, ptr r, .pointer (some ⟨r, 0, none⟩), .int .i64 W, ptr r, ptr r, .pointer (some ⟨r, 1, none⟩), .int .i64 H, mp W H (.slice none 0 0) (.slice none 0 0), u13, u14, u15, u16, u17, u18, u19, u20, undef, undef, undef, undef, undef, undef, undef, undef, undef], defers := [] })) ?rest2 ?_
    case rest2 =>
      rintro (_ | _ | _ | _ | _) a' w' hO
      all_goals first | exact hO.elim | skip
      obtain ⟨rfl, u13, u14, u15, u16, u17, u18, u19, u20, rfl⟩ := hO
      clear HS2 y2 x2 q2 hrun3 BX3
      obtain ⟨w4, hw4⟩ : ∃ w4, w3.setCell ⟨w.heap.size + 1, 2, none⟩ (.slice a3 tl.length cap3) = w4 := ⟨_, rfl⟩
      have z4 : w3.heap.size ≤ w4.heap.size := by rw [← hw4]; simp
      rw [hw4] at HN4 ⊢
      clear hw4
      obtain ⟨T4, M4, B4⟩ := HN4.out
      obtain ⟨a5, cap5, w5, hrun5, hown5, hB5, hfr5⟩ := append_row w4.drew 23 23 55 f92 z55 5 40 Try.underlying23 hf92 hz92 hs92 hb92 rfl (by decide) (append_nil34 _ _) a2 cap2 L.length _ (cs_len L) h02 ((HL.out _ B4).cellsAt) one_all (by unfold maxLen; omega) (by omega)
      have B5 : Below w4.heap.size w4 w5 := below_undrew hB5
      have M5 := M4.kept B5
      have BX5 := bt B4 B5
      have z5 := B5.size
      have y3 : w4.cell? ⟨w.heap.size + 1, 3, none⟩ = some (.slice none 0 0) := M4.c.2.2.2
      have x3 : w5.cell? ⟨w.heap.size + 1, 3, none⟩ = some (.slice none 0 0) := M5.c.2.2.2
      have q3 := M5.f 3
      have TS5 : Turns (fun j => j = w.heap.size + 1) w5 (w5.setCell ⟨w.heap.size + 1, 3, none⟩ (.slice a5 L.length cap5)) := Turns.set (S := fun j => j = w.heap.size + 1) w5 (p := ⟨w.heap.size + 1, 3, none⟩) rfl _
      have o5 : ∀ k, (Value.slice a5 L.length cap5).ownBlock = some k → k ≠ w.heap.size + 1 := fun k e h => by have h1 := hfr5 k e; have h2 := M4.lt; have h4 : w4.drew.heap.size = w4.heap.size := rfl; omega
      have L6 : Bds (w5.setCell ⟨w.heap.size + 1, 3, none⟩ (.slice a5 L.length cap5)) (.slice a5 L.length cap5) L := Bds.kept (show Bds w5 (.slice a5 L.length cap5) L from hown5) TS5 (fun k e h => o5 k e h)
      have T6 : Tls (w5.setCell ⟨w.heap.size + 1, 3, none⟩ (.slice a5 L.length cap5)) (.slice a3 tl.length cap3) tl := (T4.kept (Turns.of_below (S := NoB) B5) (fun _ _ => id)).kept TS5 (fun k e h => Ho3.out k e h)
      have M6 := M5.set3 (.slice a5 L.length cap5)
      have B6 : Below X.heap.size X (w5.setCell ⟨w.heap.size + 1, 3, none⟩ (.slice a5 L.length cap5)) := BX5.setCell (p := ⟨w.heap.size + 1, 3, none⟩) (by simp; omega) _
      have N6 : MB (w5.setCell ⟨w.heap.size + 1, 3, none⟩ (.slice a5 L.length cap5)) w.heap.size 0 0 (.slice none 0 0) (.slice none 0 0) := M0.kept B6
      have b3 : ∀ k, (Value.slice a3 tl.length cap3).ownBlock = some k → k ≠ w.heap.size := fun k e h => by
        have := (T4.lt k e).1
        subst h
        exact absurd e (MB_row N6 T6 (by decide))
      have b5 : ∀ k, (Value.slice a5 L.length cap5).ownBlock = some k → k ≠ w.heap.size := fun k e h => by
        subst h
        exact absurd e (MB_row N6 L6 (by decide))
      have HN6 := hide (And.intro T6 (And.intro L6 (And.intro M6 (And.intro B6 N6))))
      have Hb3 := hide b3
      have Hb5 := hide b5
      have HS3 : Hid (∀ wx, wx = w4 ∨ wx = w5 ∨ wx = w5.setCell ⟨w.heap.size + 1, 3, none⟩ (.slice a5 L.length cap5) → (wx.cell? ⟨r, 0, none⟩ = some (.int .i64 W) ∧ wx.cell? ⟨r, 1, none⟩ = some (.int .i64 H)) ∧ wx.cell? ⟨r, 2, none⟩ = some (.slice a1 tl.length cap1) ∧ wx.cell? ⟨r, 3, none⟩ = some (.slice a2 L.length cap2)) := hide fun wx h => HS.out wx (by rcases h with rfl | rfl | rfl <;> assumption)
      clear hown5 hfr5 hB5 T4 M4 T6 L6 M6 B6 N6 TS5 o5 M5 b3 b5 HN4
      go_wp2_with fail
      refine Code.wp_mono (Q := Only (fun a' w' => w' = w5.setCell ⟨w.heap.size + 1, 3, none⟩ (.slice a5 L.length cap5) ∧ ∃ u21 u22 u23 u24 u25 u26 u27 u28, a' = { tmps := #[ptr r, undef, ptr w.heap.size, ptr (w.heap.size + 1), ptr r, ptr r, .pointer (some ⟨r, 0, none⟩), .int .i64 W, ptr r, ptr r, .pointer (some ⟨r, 1, none⟩), .int .i64 H, mp W H (.slice none 0 0) (.slice none 0 0), u13, u14, u15, u16, u17, u18, u19, u20, u21, u22, u23, u24, u25, u26, u27, u28, undef], defers := [] })) ?rest3 ?_
      case rest3 =>
        rintro (_ | _ | _ | _ | _) a' w' hO
        all_goals first | exact hO.elim | skip
        obtain ⟨rfl, u21, u22, u23, u24, u25, u26, u27, u28, rfl⟩ := hO
        clear HS3 y3 x3 q3 hrun5 BX5
        obtain ⟨w6, hw6⟩ : ∃ w6, w5.setCell ⟨w.heap.size + 1, 3, none⟩ (.slice a5 L.length cap5) = w6 := ⟨_, rfl⟩
        rw [hw6] at HN6 ⊢
        clear hw6
        obtain ⟨T6, L6, M6, B6, N6⟩ := HN6.out
        have N7 := N6.set4 W H (.slice a3 tl.length cap3) (.slice a5 L.length cap5)
        have TE : Turns (fun j => j = w.heap.size) w6 ((((w6.setCell ⟨w.heap.size, 0, none⟩ (.int .i64 W)).setCell ⟨w.heap.size, 1, none⟩ (.int .i64 H)).setCell ⟨w.heap.size, 2, none⟩ (.slice a3 tl.length cap3)).setCell ⟨w.heap.size, 3, none⟩ (.slice a5 L.length cap5)) := turns_set4' _ _ _ _ _ _
        have HE := hide (And.intro (T6.kept TE (fun k e h => Hb3.out k e h)) (And.intro (L6.kept TE (fun k e h => Hb5.out k e h)) ((bt B0 B6).trans (TE.below (fun k h => by omega) (by have := (bt B0 B6).size; omega)))))
        obtain ⟨g0, g1, g2, g3⟩ := M6.c
        obtain ⟨j0, j1, j2, j3⟩ := N6.c
        obtain ⟨i0, i1, i2, i3⟩ := N7.c
        have p0 := N6.f 0
        have p1 := N6.f 1
        have p2 := N6.f 2
        have p3 := N6.f 3
        clear HN6 T6 L6 M6 N7 TE N6
        go_wp2_with fail
        refine bodyPost_ret (v := mp W H (.slice a3 tl.length cap3) (.slice a5 L.length cap5)) (by simp [results, Try.results35, go_sem, i0, i1, i2, i3]) rfl ?_
        exact ⟨_, _, rfl, HE.out⟩
      refine wp_region_held_drew (S := fun wx => (wx.cell? ⟨r, 0, none⟩ = some (.int .i64 W) ∧ wx.cell? ⟨r, 1, none⟩ = some (.int .i64 H)) ∧ wx.cell? ⟨r, 2, none⟩ = some (.slice a1 tl.length cap1) ∧ wx.cell? ⟨r, 3, none⟩ = some (.slice a2 L.length cap2)) (by kernel_rfl) (HS.out _ (bt B4 (Below.refl _ _).drew)) (fun hHeld => ?_)
      refine wpAnyH_take (i := 0) (v := ?_) rfl (by kernel_rfl) (by kernel_rfl) (by kernel_rfl) (fun _ _ _ h => h.elim) (Or.inl ⟨by rfl, ?_⟩) (by assumption) ?_
      rotate_left
      · intro wx hSw
        try dsimp only at hSw
        go_simp
        try with_reducible rfl
      try simp only [Act.put, List.getElem_toArray, List.getElem_cons_zero, List.getElem_cons_succ, List.setIfInBounds_toArray, List.set_cons_zero, List.set_cons_succ]
      refine wpAnyH_take (i := 2) (v := ?_) rfl (by kernel_rfl) (by kernel_rfl) (by kernel_rfl) (fun _ _ _ h => h.elim) (Or.inl ⟨by rfl, ?_⟩) (by assumption) ?_
      rotate_left
      · intro wx hSw
        try dsimp only at hSw
        go_simp
        try with_reducible rfl
      try simp only [Act.put, List.getElem_toArray, List.getElem_cons_zero, List.getElem_cons_succ, List.setIfInBounds_toArray, List.set_cons_zero, List.set_cons_succ]
      refine wpAnyH_take (i := 3) (v := ?_) rfl (by kernel_rfl) (by kernel_rfl) (by kernel_rfl) (fun _ _ _ h => h.elim) (Or.inl ⟨by rfl, ?_⟩) (by assumption) ?_
      rotate_left
      · intro wx hSw
        try dsimp only at hSw
        go_simp
        try with_reducible rfl
      try simp only [Act.put, List.getElem_toArray, List.getElem_cons_zero, List.getElem_cons_succ, List.setIfInBounds_toArray, List.set_cons_zero, List.set_cons_succ]
      refine wpAnyH_take (i := 4) (v := ?_) rfl (by kernel_rfl) (by kernel_rfl) (by kernel_rfl) (fun _ _ _ h => h.elim) (Or.inl ⟨by rfl, ?_⟩) (by assumption) ?_
      rotate_left
      · intro wx hSw
        try dsimp only at hSw
        go_simp
        try with_reducible rfl
      try simp only [Act.put, List.getElem_toArray, List.getElem_cons_zero, List.getElem_cons_succ, List.setIfInBounds_toArray, List.set_cons_zero, List.set_cons_succ]
      refine wpAnyH_take (i := 5) (v := ?_) rfl (by kernel_rfl) (by kernel_rfl) (by kernel_rfl) (fun _ _ _ h => h.elim) (Or.inl ⟨by rfl, ?_⟩) (by assumption) ?_
      rotate_left
      · intro wx hSw
        try dsimp only at hSw
        go_simp
        try with_reducible rfl
      try simp only [Act.put, List.getElem_toArray, List.getElem_cons_zero, List.getElem_cons_succ, List.setIfInBounds_toArray, List.set_cons_zero, List.set_cons_succ]
      refine wpAnyH_ready (rs := [1]) (by kernel_rfl) (by simp) ?_
      refine AllReadyH.cons rfl (fun K hK => ?_) ?_
      · go_simp
        refine hK.out _ _ ?_ (fun hHeld => ?_)
        · first | exact HS.out _ (bt B4 (Below.refl _ _).drew) | exact HS3.out _ (.inr (.inl rfl)) | exact HS3.out _ (.inr (.inr rfl))
        clear hK K
        try simp only [Act.put, List.getElem_toArray, List.getElem_cons_zero, List.getElem_cons_succ, List.setIfInBounds_toArray, List.set_cons_zero, List.set_cons_succ]
        refine wpAnyH_ready (rs := [6]) (by kernel_rfl) (by simp) ?_
        refine AllReadyH.cons rfl (fun K hK => ?_) ?_
        · refine step_append_eq rfl _ _ 23 23 rfl (by simp [Act.eval]) (by simp [Act.eval]) hrun5 ?_
          refine hK.out _ _ ?_ (fun hHeld => ?_)
          · first | exact HS.out _ (bt B4 (Below.refl _ _).drew) | exact HS3.out _ (.inr (.inl rfl)) | exact HS3.out _ (.inr (.inr rfl))
          clear hK K
          try simp only [Act.put, List.getElem_toArray, List.getElem_cons_zero, List.getElem_cons_succ, List.setIfInBounds_toArray, List.set_cons_zero, List.set_cons_succ]
          refine wpAnyH_take (i := 7) (v := ?_) rfl (by kernel_rfl) (by kernel_rfl) (by kernel_rfl) (fun _ _ _ h => h.elim) (Or.inl ⟨by rfl, ?_⟩) (by assumption) ?_
          rotate_left
          · intro wx hSw
            try dsimp only at hSw
            go_simp
            try with_reducible rfl
          try simp only [Act.put, List.getElem_toArray, List.getElem_cons_zero, List.getElem_cons_succ, List.setIfInBounds_toArray, List.set_cons_zero, List.set_cons_succ]
          refine wpAnyH_ready (rs := [8]) (by kernel_rfl) (by simp) ?_
          refine AllReadyH.cons rfl (fun K hK => ?_) ?_
          · go_simp
            refine hK.out _ _ ?_ (fun hHeld => ?_)
            · first | exact HS.out _ (bt B4 (Below.refl _ _).drew) | exact HS3.out _ (.inr (.inl rfl)) | exact HS3.out _ (.inr (.inr rfl))
            clear hK K
            try simp only [Act.put, List.getElem_toArray, List.getElem_cons_zero, List.getElem_cons_succ, List.setIfInBounds_toArray, List.set_cons_zero, List.set_cons_succ]
            refine wpAnyH_done (by kernel_rfl) ?_ _
            exact ⟨rfl, _, _, _, _, _, _, _, _, rfl⟩
          exact AllReadyH.nil
        exact AllReadyH.nil
      exact AllReadyH.nil
    refine wp_region_held_drew (S := fun wx => (wx.cell? ⟨r, 0, none⟩ = some (.int .i64 W) ∧ wx.cell? ⟨r, 1, none⟩ = some (.int .i64 H)) ∧ wx.cell? ⟨r, 2, none⟩ = some (.slice a1 tl.length cap1) ∧ wx.cell? ⟨r, 3, none⟩ = some (.slice a2 L.length cap2)) (by kernel_rfl) (HS.out _ (bt BY (Below.refl _ _).drew)) (fun hHeld => ?_)
    refine wpAnyH_take (i := 0) (v := ?_) rfl (by kernel_rfl) (by kernel_rfl) (by kernel_rfl) (fun _ _ _ h => h.elim) (Or.inl ⟨by rfl, ?_⟩) (by assumption) ?_
    rotate_left
    · intro wx hSw
      try dsimp only at hSw
      go_simp
      try with_reducible rfl
    try simp only [Act.put, List.getElem_toArray, List.getElem_cons_zero, List.getElem_cons_succ, List.setIfInBounds_toArray, List.set_cons_zero, List.set_cons_succ]
    refine wpAnyH_take (i := 2) (v := ?_) rfl (by kernel_rfl) (by kernel_rfl) (by kernel_rfl) (fun _ _ _ h => h.elim) (Or.inl ⟨by rfl, ?_⟩) (by assumption) ?_
    rotate_left
    · intro wx hSw
      try dsimp only at hSw
      go_simp
      try with_reducible rfl
    try simp only [Act.put, List.getElem_toArray, List.getElem_cons_zero, List.getElem_cons_succ, List.setIfInBounds_toArray, List.set_cons_zero, List.set_cons_succ]
    refine wpAnyH_take (i := 3) (v := ?_) rfl (by kernel_rfl) (by kernel_rfl) (by kernel_rfl) (fun _ _ _ h => h.elim) (Or.inl ⟨by rfl, ?_⟩) (by assumption) ?_
    rotate_left
    · intro wx hSw
      try dsimp only at hSw
      go_simp
      try with_reducible rfl
    try simp only [Act.put, List.getElem_toArray, List.getElem_cons_zero, List.getElem_cons_succ, List.setIfInBounds_toArray, List.set_cons_zero, List.set_cons_succ]
    refine wpAnyH_take (i := 4) (v := ?_) rfl (by kernel_rfl) (by kernel_rfl) (by kernel_rfl) (fun _ _ _ h => h.elim) (Or.inl ⟨by rfl, ?_⟩) (by assumption) ?_
    rotate_left
    · intro wx hSw
      try dsimp only at hSw
      go_simp
      try with_reducible rfl
    try simp only [Act.put, List.getElem_toArray, List.getElem_cons_zero, List.getElem_cons_succ, List.setIfInBounds_toArray, List.set_cons_zero, List.set_cons_succ]
    refine wpAnyH_take (i := 5) (v := ?_) rfl (by kernel_rfl) (by kernel_rfl) (by kernel_rfl) (fun _ _ _ h => h.elim) (Or.inl ⟨by rfl, ?_⟩) (by assumption) ?_
    rotate_left
    · intro wx hSw
      try dsimp only at hSw
      go_simp
      try with_reducible rfl
    try simp only [Act.put, List.getElem_toArray, List.getElem_cons_zero, List.getElem_cons_succ, List.setIfInBounds_toArray, List.set_cons_zero, List.set_cons_succ]
    refine wpAnyH_ready (rs := [1]) (by kernel_rfl) (by simp) ?_
    refine AllReadyH.cons rfl (fun K hK => ?_) ?_
    · go_simp
      refine hK.out _ _ ?_ (fun hHeld => ?_)
      · first | exact HS.out _ (bt BY (Below.refl _ _).drew) | exact HS2.out _ (.inr (.inl rfl)) | exact HS2.out _ (.inr (.inr rfl))
      clear hK K
      try simp only [Act.put, List.getElem_toArray, List.getElem_cons_zero, List.getElem_cons_succ, List.setIfInBounds_toArray, List.set_cons_zero, List.set_cons_succ]
      refine wpAnyH_ready (rs := [6]) (by kernel_rfl) (by simp) ?_
      refine AllReadyH.cons rfl (fun K hK => ?_) ?_
      · refine step_append_eq rfl _ _ 22 22 rfl (by simp [Act.eval]) (by simp [Act.eval]) hrun3 ?_
        refine hK.out _ _ ?_ (fun hHeld => ?_)
        · first | exact HS.out _ (bt BY (Below.refl _ _).drew) | exact HS2.out _ (.inr (.inl rfl)) | exact HS2.out _ (.inr (.inr rfl))
        clear hK K
        try simp only [Act.put, List.getElem_toArray, List.getElem_cons_zero, List.getElem_cons_succ, List.setIfInBounds_toArray, List.set_cons_zero, List.set_cons_succ]
        refine wpAnyH_take (i := 7) (v := ?_) rfl (by kernel_rfl) (by kernel_rfl) (by kernel_rfl) (fun _ _ _ h => h.elim) (Or.inl ⟨by rfl, ?_⟩) (by assumption) ?_
        rotate_left
        · intro wx hSw
          try dsimp only at hSw
          go_simp
          try with_reducible rfl
        try simp only [Act.put, List.getElem_toArray, List.getElem_cons_zero, List.getElem_cons_succ, List.setIfInBounds_toArray, List.set_cons_zero, List.set_cons_succ]
        refine wpAnyH_ready (rs := [8]) (by kernel_rfl) (by simp) ?_
        refine AllReadyH.cons rfl (fun K hK => ?_) ?_
        · go_simp
          refine hK.out _ _ ?_ (fun hHeld => ?_)
          · first | exact HS.out _ (bt BY (Below.refl _ _).drew) | exact HS2.out _ (.inr (.inl rfl)) | exact HS2.out _ (.inr (.inr rfl))
          clear hK K
          try simp only [Act.put, List.getElem_toArray, List.getElem_cons_zero, List.getElem_cons_succ, List.setIfInBounds_toArray, List.set_cons_zero, List.set_cons_succ]
          refine wpAnyH_done (by kernel_rfl) ?_ _
          exact ⟨rfl, _, _, _, _, _, _, _, _, rfl⟩
        exact AllReadyH.nil
      exact AllReadyH.nil
    exact AllReadyH.nil
  refine wp_region_held_drew (S := fun wx => (wx.cell? ⟨r, 0, none⟩ = some (.int .i64 W) ∧ wx.cell? ⟨r, 1, none⟩ = some (.int .i64 H)) ∧ wx.cell? ⟨r, 2, none⟩ = some (.slice a1 tl.length cap1) ∧ wx.cell? ⟨r, 3, none⟩ = some (.slice a2 L.length cap2)) (by kernel_rfl) (HS.out _ (Below.refl _ _).drew) (fun hHeld => ?_)
  refine wpAnyH_take (i := 0) (v := ?_) rfl (by kernel_rfl) (by kernel_rfl) (by kernel_rfl) (fun _ _ _ h => h.elim) (Or.inl ⟨by rfl, ?_⟩) (by assumption) ?_
  rotate_left
  · intro wx hSw
    try dsimp only at hSw
    go_simp
    try with_reducible rfl
  try simp only [Act.put, List.getElem_toArray, List.getElem_cons_zero, List.getElem_cons_succ, List.setIfInBounds_toArray, List.set_cons_zero, List.set_cons_succ]
  refine wpAnyH_take (i := 1) (v := ?_) rfl (by kernel_rfl) (by kernel_rfl) (by kernel_rfl) (fun _ _ _ h => h.elim) (Or.inl ⟨by rfl, ?_⟩) (by assumption) ?_
  rotate_left
  · intro wx hSw
    try dsimp only at hSw
    go_simp
    try with_reducible rfl
  try simp only [Act.put, List.getElem_toArray, List.getElem_cons_zero, List.getElem_cons_succ, List.setIfInBounds_toArray, List.set_cons_zero, List.set_cons_succ]
  refine wpAnyH_take (i := 2) (v := ?_) rfl (by kernel_rfl) (by kernel_rfl) (by kernel_rfl) (fun _ _ _ h => h.elim) (Or.inl ⟨by rfl, ?_⟩) (by assumption) ?_
  rotate_left
  · intro wx hSw
    try dsimp only at hSw
    go_simp
    try with_reducible rfl
  try simp only [Act.put, List.getElem_toArray, List.getElem_cons_zero, List.getElem_cons_succ, List.setIfInBounds_toArray, List.set_cons_zero, List.set_cons_succ]
  refine wpAnyH_take (i := 3) (v := ?_) rfl (by kernel_rfl) (by kernel_rfl) (by kernel_rfl) (fun _ _ _ h => h.elim) (Or.inl ⟨by rfl, ?_⟩) (by assumption) ?_
  rotate_left
  · intro wx hSw
    try dsimp only at hSw
    go_simp
    try with_reducible rfl
  try simp only [Act.put, List.getElem_toArray, List.getElem_cons_zero, List.getElem_cons_succ, List.setIfInBounds_toArray, List.set_cons_zero, List.set_cons_succ]
  refine wpAnyH_take (i := 4) (v := ?_) rfl (by kernel_rfl) (by kernel_rfl) (by kernel_rfl) (fun _ _ _ h => h.elim) (Or.inl ⟨by rfl, ?_⟩) (by assumption) ?_
  rotate_left
  · intro wx hSw
    try dsimp only at hSw
    go_simp
    try with_reducible rfl
  try simp only [Act.put, List.getElem_toArray, List.getElem_cons_zero, List.getElem_cons_succ, List.setIfInBounds_toArray, List.set_cons_zero, List.set_cons_succ]
  refine wpAnyH_take (i := 5) (v := ?_) rfl (by kernel_rfl) (by kernel_rfl) (by kernel_rfl) (fun _ _ _ h => h.elim) (Or.inl ⟨by rfl, ?_⟩) (by assumption) ?_
  rotate_left
  · intro wx hSw
    try dsimp only at hSw
    go_simp
    try with_reducible rfl
  try simp only [Act.put, List.getElem_toArray, List.getElem_cons_zero, List.getElem_cons_succ, List.setIfInBounds_toArray, List.set_cons_zero, List.set_cons_succ]
  refine wpAnyH_take (i := 6) (v := ?_) rfl (by kernel_rfl) (by kernel_rfl) (by kernel_rfl) (fun _ _ _ h => h.elim) (Or.inl ⟨by rfl, ?_⟩) (by assumption) ?_
  rotate_left
  · intro wx hSw
    try dsimp only at hSw
    go_simp
    try with_reducible rfl
  try simp only [Act.put, List.getElem_toArray, List.getElem_cons_zero, List.getElem_cons_succ, List.setIfInBounds_toArray, List.set_cons_zero, List.set_cons_succ]
  refine wpAnyH_take (i := 7) (v := ?_) rfl (by kernel_rfl) (by kernel_rfl) (by kernel_rfl) (fun _ _ _ h => h.elim) (Or.inl ⟨by rfl, ?_⟩) (by assumption) ?_
  rotate_left
  · intro wx hSw
    try dsimp only at hSw
    go_simp
    try with_reducible rfl
  try simp only [Act.put, List.getElem_toArray, List.getElem_cons_zero, List.getElem_cons_succ, List.setIfInBounds_toArray, List.set_cons_zero, List.set_cons_succ]
  refine wpAnyH_take (i := 8) (v := ?_) rfl (by kernel_rfl) (by kernel_rfl) (by kernel_rfl) (fun _ _ _ h => h.elim) (Or.inl ⟨by rfl, ?_⟩) (by assumption) ?_
  rotate_left
  · intro wx hSw
    try dsimp only at hSw
    go_simp
    try with_reducible rfl
  try simp only [Act.put, List.getElem_toArray, List.getElem_cons_zero, List.getElem_cons_succ, List.setIfInBounds_toArray, List.set_cons_zero, List.set_cons_succ]
  refine wpAnyH_ready (rs := [9]) (by kernel_rfl) (by simp) ?_
  refine AllReadyH.cons rfl (fun K hK => ?_) ?_
  · go_simp
    refine hK.out _ _ ?_ (fun hHeld => ?_)
    · first | exact HS.out _ (Below.refl _ _).drew | exact HS.out _ (box1 _ _).drew
    clear hK K
    try simp only [Act.put, List.getElem_toArray, List.getElem_cons_zero, List.getElem_cons_succ, List.setIfInBounds_toArray, List.set_cons_zero, List.set_cons_succ]
    refine wpAnyH_ready (rs := [10]) (by kernel_rfl) (by simp) ?_
    refine AllReadyH.cons rfl (fun K hK => ?_) ?_
    · go_simp
      refine hK.out _ _ ?_ (fun hHeld => ?_)
      · first | exact HS.out _ (Below.refl _ _).drew | exact HS.out _ (box1 _ _).drew
      clear hK K
      try simp only [Act.put, List.getElem_toArray, List.getElem_cons_zero, List.getElem_cons_succ, List.setIfInBounds_toArray, List.set_cons_zero, List.set_cons_succ]
      refine wpAnyH_done (by kernel_rfl) ?_ _
      exact ⟨⟨MB.own X z0 W H, (box1 _ _).drew⟩, rfl⟩
    exact AllReadyH.nil
  exact AllReadyH.nil
end Go.Proofs.Ytobjadfchpgjeaa
namespace Go.Proofs.Ytobjadfchpgjeaa
open Go.RowKit
set_option linter.unusedVariables false
section
variable {n l : Nat} {P : Program} {ops : Array Oper} {md : Region.Mode} {Q : Exit → Act → World → Prop}
theorem oper_in {o : Oper} {a : Act} {w : World} {K K' : Act → World → Prop} (hnd : ∀ c, o.op ≠ .defer c) (hK : ∀ a w, K a w → K' a w) (h : o.wp P a w K Q) : o.wpIn (Fence.wide.inRound l) n P a w K' Q := by
  unfold Oper.wp at h
  unfold Oper.wpIn
  refine ⟨fun _ _ => trivial, ?_⟩
  rw [Oper.semAt_eq _ _ _ hnd]
  generalize (execOp a.eval o).run P w = r at *
  cases r with
  | ok x w' =>
    cases x <;> simp only [Oper.upon] at h <;> simp only [Oper.uponIn]
    case value u => exact hK _ _ h
    case skip => exact hK _ _ h
    case defer d => exact hK _ _ h
    case enter f args =>
      refine ⟨(fun h => by cases h), CallsIn.inRound l (callsIn_wide.2 (h.mono ?_))⟩
      rintro e w'' he
      cases e with
      | returned v => exact hK _ _ he
      | panicked ch => exact he
      | outgrown => exact he
    case row r args =>
      refine ⟨(fun h => by cases h), fun c cs _ => ?_⟩
      obtain ⟨v, w2, hr, hs⟩ := h c cs
      exact ⟨v, w2, hK _ _ hr, stepsIn_wide.2 hs⟩
  | halt x w' => cases x <;> exact h
theorem wpOp_in {i : Nat} {a : Act} {w : World} {K K' : Act → World → Prop} (hno : ¬ LetsOut Q) (hnd : ∀ (i : Nat) (o : Oper), ops[i]? = some o → ∀ c, o.op ≠ .defer c) (hK : ∀ a w, K a w → K' a w)
    (h : wpOp P ops Q i K a w) : wpOpIn (Fence.wide.inRound l) n P ops Q i K' a w := by
  unfold wpOp at h
  unfold wpOpIn
  split
  · rename_i ho; simp only [ho] at h; exact hK _ _ h
  · rename_i o ho
    simp only [ho] at h
    split
    · rename_i hw
      simp only [hw, if_true] at h
      rcases h with h | h
      · exact oper_in (hnd i o ho) hK h
      · exact absurd h.2 hno
    · rename_i hw
      simp only [hw] at h
      exact ⟨fun _ _ => trivial, hK _ _ h⟩
theorem wpAny_in (hno : ¬ LetsOut Q) (hnd : ∀ (i : Nat) (o : Oper), ops[i]? = some o → ∀ c, o.op ≠ .defer c) : ∀ (fuel : Nat) (listed : Array Bool) (a : Act) (w : World),
    wpAny P md ops Q fuel listed a w → wpAnyIn (Fence.wide.inRound l) n P md ops Q fuel listed a w
  | 0, _, _, _, h => h
  | fuel + 1, _, _, _, h => ⟨h.1, fun i hi => wpOp_in hno hnd (fun a' w' => wpAny_in hno hnd fuel _ a' w') (h.2 i hi)⟩
end
theorem wpIn_region_heldR {n l : Nat} {P : Program} {id : Nat} {Q : Exit → Act → World → Prop} {a : Act} {w : World} {L : List Oper} {S : World → Prop} (hno : ¬ LetsOut Q) (hm : P.follows .mixedOrders = true) (hd : noDefer L = true) (hS : S w.drew)
    (h : S w.drew → wpAnyH P .any L.toArray Q S L.toArray.size (Array.replicate L.toArray.size false) a w.drew) : (Code.region id L.toArray true).wpIn (Fence.wide.inRound l) n P Q a w :=
  wpIn_region_any hm (wpAny_in hno (fun i o ho => noDefer_at hd ho) _ _ _ _ (wpAny_of_held _ _ _ _ (h hS)))
theorem only_in {K : Act → World → Prop} : ¬ LetsOut (Only K) := fun ⟨_, _, h⟩ => h
end Go.Proofs.Ytobjadfchpgjeaa
set_option linter.unusedSimpArgs false
namespace Go.Proofs.Ytobjadfchpgjeaa
open Go.RowKit Go.Shelf
set_option linter.unusedVariables false
attribute [local go_sem] Oper.semAt_some
theorem blds_any (p : Nat) (w : World) : Calls Try.prog 30 #[ptr p] w fun e w' => e = .returned (.func (.func 54) #[] #[ptr w.heap.size]) ∧ w' = w.alloc (.cells #[ptr p] 27) := by
  go_enter Try.func30, Try.ntmps30
  go_wp2
  go_ret
  exact ⟨rfl, rfl⟩
theorem eqlF (k : Nat) (w : World) : (binOp .eql 74 (.func (.func 54) #[] #[ptr k]) .nilFunc).run Try.prog w = .ok (.bool false) w := by kernel_rfl
theorem five_own {W W' : World} {row : Option Nat} {b : Nat} {t : Bd} (h : Five W b t) (hg : W.grownBy W' row) (hr : ∀ r, row = some r → ∃ o : Obj, W.heap[r]? = some o ∧ o.isCells = false) : Five W' b t := by
  refine (hg.block b (Array.getElem?_eq_some_iff.1 h).1 (fun e => ?_)).trans h
  obtain ⟨o, h1, h2⟩ := hr b e.symm
  rw [show W.heap[b]? = _ from h] at h1
  cases h1
  cases h2
theorem wpIn_only {F : Fence} {m : Nat} {c : Code} {Q : Exit → Act → World → Prop} {a : Act} {w : World} (h : c.wpIn F m Try.prog (Only (fun a' w' => Q .normal a' w')) a w) : c.wpIn F m Try.prog Q a w := by
  refine Code.wpIn_mono ?_ h
  rintro (_ | _ | _ | _ | _) a' w' hO
  all_goals first | exact hO.elim | exact hO
theorem bd_ne {s t : Bd} (h : s ≠ t) : ¬ ((((s.id = t.id ∧ s.x = t.x) ∧ s.y = t.y) ∧ s.a = t.a) ∧ s.b = t.b) := by
  rintro ⟨⟨⟨⟨h1, h2⟩, h3⟩, h4⟩, h5⟩
  exact h (by cases s; cases t; simp_all)
theorem neqB {s t : Bd} (h : s ≠ t) (w : World) : (binOp .neq 55 s.v t.v).run Try.prog w = .ok (.bool true) w := by
  have hn := bd_ne h
  clear h
  obtain ⟨i, x, y, a, b⟩ := s
  obtain ⟨j, u, v, c, d⟩ := t
  simp only at hn
  by_cases h1 : i = j
  · by_cases h2 : x = u
    · by_cases h3 : y = v
      · by_cases h4 : a = c
        · have h5 : ¬ b = d := fun h => hn ⟨⟨⟨⟨h1, h2⟩, h3⟩, h4⟩, h⟩
          subst h1 h2 h3 h4
          clear hn
          go_simp
        · subst h1 h2 h3
          clear hn
          go_simp
      · subst h1 h2
        clear hn
        go_simp
    · subst h1
      clear hn
      go_simp
  · clear hn
    go_simp
theorem cell_oth {X : World} {b o b' o' : Nat} {v u : Value} (h : X.cell? ⟨b, o, none⟩ = some v) (hne : b ≠ b') : (X.setCell ⟨b', o', none⟩ u).cell? ⟨b, o, none⟩ = some v := (World.cell?_setCell_other X ⟨b', o', none⟩ ⟨b, o, none⟩ u (by intro e; injection e with e1; omega)).trans h
theorem boxI {X wx : World} {i : Nat} {v : Value} (hx : Below X.heap.size X wx) (b : Boxed X i 3 v) : wx.cell? ⟨i, 0, none⟩ = some v := (hx.cell (p := ⟨i, 0, none⟩) b.lt).trans b.cell
theorem len_own {B i : Nat} : OwnFrom B (fun (pre : List Bd) X => Boxed X i 3 (.int .i64 (pre.length : Nat))) := Own.from (boxed_own i 3 (fun pre : List Bd => .int .i64 (pre.length : Nat))) B
set_option maxRecDepth 100000 in
set_option maxHeartbeats 8000000 in
theorem is_any {N : Nat} {w : World} {p r : Nat} {W H : Int} {tl : List Nat} {l : List Bd} {es : List Rc} {bm n : Nat} {tv bv ev rt rb re : Value} (h : BoAt N w p r W H tl l es bm n tv bv ev rt rb re) (hF : Fine W H l) (hm : mt W H tl = true) (hes : es.length * 32 ≤ 211106232532992) :
    Calls Try.prog 9 #[boV p r] w fun e w' => e = .returned (.bool true) ∧ Below w.heap.size w w' := by
  have B0 := box2 w (.cells #[ptr p, ptr r] 30) (.cells #[.bool false] 4)
  have R0 : BB ((w.alloc (.cells #[ptr p, ptr r] 30)).alloc (.cells #[.bool false] 4)) w.heap.size (ptr p) (ptr r) := (Below.heap_alloc _ _ _ (by simp)).trans (heap_alloc_new w _)
  have Q0 : Boxed ((w.alloc (.cells #[ptr p, ptr r] 30)).alloc (.cells #[.bool false] 4)) (w.heap.size + 1) 4 (.bool false) := by
    have := Boxed.new (w.alloc (.cells #[ptr p, ptr r] 30)) 4 (.bool false)
    simpa using this
  obtain ⟨X, hX⟩ : ∃ X, (w.alloc (.cells #[ptr p, ptr r] 30)).alloc (.cells #[.bool false] 4) = X := ⟨_, rfl⟩
  have z0 : X.heap.size = w.heap.size + 2 := by rw [← hX]; simp
  rw [hX] at B0 R0 Q0
  have HX := h.below B0
  have HAl := hide (refall_any r W H rt rb re X HX.d')
  obtain ⟨c0, c1, -, -⟩ := R0.c
  refine (callsIn_wide (n := 10)).1 ?_
  refine callsIn_of_wp_marks Try.func9 rfl trivial ?_ rfl
  simp only [Try.ntmps9, List.size_toArray, List.length_cons, List.length_nil, Nat.reduceAdd, Nat.reduceSub, Array.replicate_succ, Array.replicate_zero, List.push_toArray, List.append_toArray, List.nil_append, List.cons_append]
  gi_wp2_with fail
  refine ⟨trivial, ?_⟩
  refine (callsIn_wide.2 HAl.out).mono ?_
  rintro e w1 ⟨rfl, hb1⟩
  have B1 : Below w1.heap.size w1 (w1.alloc (.cells #[.int .i64 0, .int .i64 0, .int .i64 W, .int .i64 H] 43)) := box1 _ _
  have F1 : Four (w1.alloc (.cells #[.int .i64 0, .int .i64 0, .int .i64 W, .int .i64 H] 43)) w1.heap.size 0 0 W H := cells4 (Below.refl _ _)
  obtain ⟨Y, hY⟩ : ∃ Y, w1.alloc (.cells #[.int .i64 0, .int .i64 0, .int .i64 W, .int .i64 H] 43) = Y := ⟨_, rfl⟩
  have zY : Y.heap.size = w1.heap.size + 1 := by rw [← hY]; simp
  have zw := hb1.size
  rw [hY] at B1 F1
  clear hX c0 c1 HAl
  gi_wp2_with fail
  clear hY
  have BXY : Below w.heap.size w Y := bt B0 (bt hb1 B1)
  have HZ : ∀ wx, Below Y.heap.size Y wx → BoAt N wx p r W H tl l es bm n tv bv ev rt rb re := fun wx hx => h.below (bt BXY hx)
  have HA1 : Hid (∀ wx, Below Y.heap.size Y wx → Calls Try.prog 29 #[ptr p] wx fun e w' => e = .returned (rct 0 0 W H) ∧ Below wx.heap.size wx w') := hide fun wx hx => all_world p bm W H tv bv ev wx (HZ wx hx).d
  have HEp : Hid (∀ wx, Below Y.heap.size Y wx → Calls Try.prog 25 #[ptr p] wx fun e w' => e = .returned (.int .i64 (es.length : Nat)) ∧ w' = wx) := hide fun wx hx => epoch_world p bm W H tv bv ev es wx (HZ wx hx).d (HZ wx hx).e
  have HMp : Hid (∀ wx, Below Y.heap.size Y wx → Calls Try.prog 21 #[ptr p] wx (Mapped wx W H tl l)) := hide fun wx hx => (HZ wx hx).pa.map hm hF
  have HRm : Hid (∀ wx, Below Y.heap.size Y wx → Calls Try.prog 35 #[ptr r] wx fun e w' => ∃ tv' bv', e = .returned (mp W H tv' bv') ∧ Tls w' tv' tl ∧ Bds w' bv' l ∧ Below wx.heap.size wx w') := hide fun wx hx => refmap_any r W H rt rb re tl l wx (HZ wx hx).d' (HZ wx hx).t' (HZ wx hx).b' (mt_len hm) hF.len
  have HSm : Hid (∀ wx tv1 bv1 tv2 bv2, Tls wx tv1 tl → Bds wx bv1 l → Tls wx tv2 tl → Bds wx bv2 l → Calls Try.prog 27 #[mp W H tv1 bv1, mp W H tv2 bv2] wx fun e w' => e = .returned (.bool true) ∧ Below wx.heap.size wx w') := hide fun wx tv1 bv1 tv2 bv2 h1 h2 h3 h4 => same_yes W H tv1 bv1 tv2 bv2 tl l wx h1.r h3.r h2.r h4.r
  have HBl : Hid (∀ wx, Calls Try.prog 30 #[ptr p] wx fun e w' => e = .returned (.func (.func 54) #[] #[ptr wx.heap.size]) ∧ w' = wx.alloc (.cells #[ptr p] 27)) := hide fun wx => blds_any p wx
  obtain ⟨ae, ce, hre, -, -⟩ := h.e'.form
  have HS : Hid (∀ wx, Below Y.heap.size Y wx → (wx.cell? ⟨w.heap.size, 0, none⟩ = some (ptr p) ∧ wx.cell? ⟨w.heap.size, 1, none⟩ = some (ptr r) ∧ wx.cell? ⟨r, 4, none⟩ = some (.slice ae es.length ce)) ∧ wx.cell? ⟨w1.heap.size, 0, none⟩ = some (.int .i64 0) ∧ wx.cell? ⟨w1.heap.size, 1, none⟩ = some (.int .i64 0) ∧ wx.cell? ⟨w1.heap.size, 2, none⟩ = some (.int .i64 W) ∧ wx.cell? ⟨w1.heap.size, 3, none⟩ = some (.int .i64 H)) := hide fun wx hx => by
    have b1 := ((R0.kept hb1).kept B1).kept hx
    exact ⟨⟨b1.c.1, b1.c.2.1, by rw [← hre]; exact (HZ wx hx).d'.c 4⟩, (F1.kept hx).1⟩
  have QY : Boxed Y (w.heap.size + 1) 4 (.bool false) := (bt hb1 B1).block _ (by omega) |>.trans Q0
  have RY := (R0.kept hb1).kept B1
  have HZZ := hide HZ
  clear HZ F1
  have qF := eqlF
  refine Code.wpIn_mono (Q := Only (fun a' w' => Below Y.heap.size Y w' ∧ ∃ u9 u10 u11 u12 u13 u14 u15 u16 u17 u18 u19 u20 u21 u22 u23 u24 u25 u26 u27 u28 u29 u30 u31 u32 u33 u34 u35 u36 u37 u38 u39 u40, a' = { tmps := #[boV p r, ptr w.heap.size, ptr (w.heap.size + 1), ptr w1.heap.size, undef, undef, .pointer (some ⟨w.heap.size, 1, none⟩), ptr r, rct 0 0 W H, u9, u10, u11, u12, u13, u14, u15, u16, u17, u18, u19, u20, u21, u22, u23, u24, u25, u26, u27, u28, u29, u30, u31, u32, u33, u34, u35, u36, u37, u38, u39, u40, .bool false, undef, undef, undef, undef, undef, undef, undef, undef, undef, undef, undef, undef, undef, undef, undef, undef, undef, undef, undef, undef, undef, undef, undef, undef, undef, undef, undef, undef, undef, undef, undef, undef, undef, undef], defers := [] })) ?rest ?_
  case rest =>
    rintro (_ | _ | _ | _ | _) a' z6 hO
    all_goals first | exact hO.elim | skip
    obtain ⟨hX6, u9, u10, u11, u12, u13, u14, u15, u16, u17, u18, u19, u20, u21, u22, u23, u24, u25, u26, u27, u28, u29, u30, u31, u32, u33, u34, u35, u36, u37, u38, u39, u40, rfl⟩ := hO
    have B7 : Below z6.heap.size z6 (z6.alloc (.cells #[.int .i64 0] 3)) := box1 _ _
    have I7 : Boxed (z6.alloc (.cells #[.int .i64 0] 3)) z6.heap.size 3 (.int .i64 0) := Boxed.new z6 3 _
    have c0 := ((RY.kept hX6).kept B7).c.1
    obtain ⟨Z, hZ⟩ : ∃ Z, z6.alloc (.cells #[.int .i64 0] 3) = Z := ⟨_, rfl⟩
    have zZ : Z.heap.size = z6.heap.size + 1 := by rw [← hZ]; simp
    rw [hZ] at B7 I7
    have RZ := (RY.kept hX6).kept B7
    have z6y := hX6.size
    have HhZ := hide hZ
    clear HA1 HEp HMp HRm HSm HS qF hZ
    gi_wp2_with fail
    rw [HhZ.out]
    refine ⟨trivial, ?_⟩
    refine (callsIn_wide.2 (HBl.out _)).mono ?_
    rintro e w8 ⟨rfl, hw8⟩
    have P8 : PBx w8 Z.heap.size p := by rw [hw8]; exact heap_alloc_new Z _
    have B8 : Below Z.heap.size Z w8 := by rw [hw8]; exact box1 _ _
    have z8 : w8.heap.size = Z.heap.size + 1 := by rw [hw8]; simp
    have BY8 : Below Y.heap.size Y w8 := bt hX6 (bt B7 B8)
    have I8 : Boxed w8 z6.heap.size 3 (.int .i64 0) := (B8.block _ (by omega)).trans I7
    clear hw8 HhZ c0 HBl
    gi_wp2_with fail
    have HI8 := hide BY8
    rw [zZ] at P8
    refine range_nest (n := 10) (w0 := w8) (by omega) (gf := 54) (lb := #[ptr (z6.heap.size + 1)]) rfl (enters_of Try.func54 (by kernel_rfl) rfl)
      (blds_seq (10 - 1) p (z6.heap.size + 1) W H tl l es bm n tv bv ev w8 (by omega) P8 (HZZ.out _ BY8).pa hF.len) (fun _ _ => trivial) (fun _ _ _ _ _ _ _ _ => trivial) (Below.refl _ _) (fun _ => rfl)
      (fun pre X => ((pre <+: l ∧ Boxed X z6.heap.size 3 (.int .i64 (pre.length : Nat))) ∧ Below z6.heap.size z6 X) ∧ w8.heap.size ≤ X.heap.size)
      (fun pre X => ¬ pre <+: l)
      (OwnFrom.and (OwnFrom.and (OwnFrom.and (ownFrom_pure _ _) len_own) (ownFrom_below (Nat.le_refl _) (by omega))) (fun _ _ _ _ hs hg _ => Nat.le_trans hs hg.size))
      (ownFrom_pure _ _)
      ⟨⟨⟨List.nil_prefix, I8⟩, (bt B7 B8)⟩, Nat.le_refl _⟩
      (fun t a' X => ∃ Bx, w8.heap.size ≤ Bx ∧ Five X Bx t ∧ a' = { tmps := #[boV p r, ptr w.heap.size, ptr (w.heap.size + 1), ptr w1.heap.size, ptr z6.heap.size, ptr Bx, .pointer (some ⟨w.heap.size, 1, none⟩), ptr r, rct 0 0 W H, u9, u10, u11, u12, u13, u14, u15, u16, u17, u18, u19, u20, u21, u22, u23, u24, u25, u26, u27, u28, u29, u30, u31, u32, u33, u34, u35, u36, u37, u38, u39, u40, .bool false, .pointer (some ⟨w.heap.size, 0, none⟩), ptr p, .func (.func 54) #[] #[ptr (z6.heap.size + 1)], t.v, undef, undef, undef, undef, undef, undef, undef, undef, undef, undef, undef, undef, undef, undef, undef, undef, undef, undef, undef, undef, undef, undef, undef, undef, undef, undef, undef, undef, undef, undef], defers := [] })
      (fun t a' _ X Y row hs hg hr => by obtain ⟨Bx, e1, e2, e3⟩ := hs; exact ⟨Bx, e1, five_own e2 hg (fun r e => (hr r e).2), e3⟩)
      ?assign ?body ?done ?stop
    case assign =>
      rintro l' pre t X K ⟨⟨⟨hp, bI⟩, hB⟩, hz⟩ hK
      gi_wp2
      exact hK _ _ (Keep.of_below (box1 _ _)) trivial ⟨⟨⟨hp, bI.alloc _⟩, hB.alloc (by omega) _⟩, by simp; omega⟩ ⟨X.heap.size, hz, heap_alloc_new X _, rfl⟩
    case body =>
      rintro l' pre t a' X hl' ⟨⟨⟨hp, bI⟩, hB⟩, hz⟩ ⟨Bx, hBx, F, rfl⟩ hlt
      have BYX : Below Y.heap.size Y X := bt hX6 hB
      have RX := RY.kept BYX
      have bX := HZZ.out _ BYX
      obtain ⟨arb, crb, hrb, hc1, hc2, hat⟩ := bX.b'.form
      have kk : (0 : Int) ≤ (pre.length : Nat) ∧ ((pre.length : Nat) : Int) < 256 := by omega
      have ll : ((l.length : Nat) : Int) ≤ 256 := by have := hF.len; omega
      have QX : Boxed X (w.heap.size + 1) 4 (.bool false) := (BYX.block _ (by omega)).trans QY
      have cR := QX.cell
      have fR := QX.frozen
      have cI := bI.cell
      have fI := bI.frozen
      have hS0 : ∀ wx, Below X.heap.size X wx → (wx.cell? ⟨w.heap.size, 1, none⟩ = some (ptr r) ∧ wx.cell? ⟨z6.heap.size, 0, none⟩ = some (.int .i64 (pre.length : Nat)) ∧ wx.cell? ⟨r, 3, none⟩ = some (.slice arb l.length crb)) ∧ (wx.cell? ⟨Bx, 0, none⟩ = some (.int .i64 t.id) ∧ wx.cell? ⟨Bx, 1, none⟩ = some (.int .i64 t.x) ∧ wx.cell? ⟨Bx, 2, none⟩ = some (.int .i64 t.y) ∧ wx.cell? ⟨Bx, 3, none⟩ = some (.int .i64 t.a) ∧ wx.cell? ⟨Bx, 4, none⟩ = some (.int .i64 t.b)) := fun wx hx => by
        have b1 := RX.kept hx
        have b2 := boxI hx bI
        have b3 := F.kept (Turns.of_below (S := NoB) hx) id
        exact ⟨⟨b1.c.2.1, b2, by rw [← hrb]; exact (HZZ.out _ (bt BYX hx)).d'.c 3⟩, b3.c 0, b3.c 1, b3.c 2, b3.c 3, b3.c 4⟩
      by_cases hk : pre.length < l.length
      · obtain ⟨s, hs⟩ : ∃ s, l[pre.length]? = some s := ⟨_, List.getElem?_eq_getElem hk⟩
        obtain ⟨g, rfl, hg, d0, d1, d2, d3, d4⟩ := hat _ s hs
        have hS : ∀ wx, Below X.heap.size X wx → ((wx.cell? ⟨w.heap.size, 1, none⟩ = some (ptr r) ∧ wx.cell? ⟨z6.heap.size, 0, none⟩ = some (.int .i64 (pre.length : Nat)) ∧ wx.cell? ⟨r, 3, none⟩ = some (.slice (some ⟨g, 0, none⟩) l.length crb)) ∧ (wx.cell? ⟨Bx, 0, none⟩ = some (.int .i64 t.id) ∧ wx.cell? ⟨Bx, 1, none⟩ = some (.int .i64 t.x) ∧ wx.cell? ⟨Bx, 2, none⟩ = some (.int .i64 t.y) ∧ wx.cell? ⟨Bx, 3, none⟩ = some (.int .i64 t.a) ∧ wx.cell? ⟨Bx, 4, none⟩ = some (.int .i64 t.b))) ∧ (wx.cell? ⟨g, pre.length * 5, none⟩ = some (.int .i64 s.id) ∧ wx.cell? ⟨g, pre.length * 5 + 1, none⟩ = some (.int .i64 s.x) ∧ wx.cell? ⟨g, pre.length * 5 + 2, none⟩ = some (.int .i64 s.y) ∧ wx.cell? ⟨g, pre.length * 5 + 3, none⟩ = some (.int .i64 s.a) ∧ wx.cell? ⟨g, pre.length * 5 + 4, none⟩ = some (.int .i64 s.b)) := fun wx hx => ⟨hS0 wx hx, (hx.cell (p := ⟨g, _, none⟩) hg).trans d0, (hx.cell (p := ⟨g, _, none⟩) hg).trans d1, (hx.cell (p := ⟨g, _, none⟩) hg).trans d2, (hx.cell (p := ⟨g, _, none⟩) hg).trans d3, (hx.cell (p := ⟨g, _, none⟩) hg).trans d4⟩
        have hki : ¬ ((l.length : Nat) : Int) ≤ (pre.length : Nat) := by omega
        have hki2 : ((pre.length : Nat) : Int) < (l.length : Nat) := by omega
        have hkd := decide_eq_false hki
        have hkd2 : decide (l.length ≤ pre.length) = false := decide_eq_false (by omega)
        have hSx := hide hS
        have hpx := hide hp
        by_cases hst : s = t
        · subst hst
          have hpre : pre ++ [s] <+: l := by
            obtain ⟨r', hr'⟩ := hpx.out
            rw [← hr'] at hs ⊢
            rw [List.getElem?_append_right (Nat.le_refl _), Nat.sub_self] at hs
            cases r' with
            | nil => simp at hs
            | cons q r'' => simp at hs; subst hs; exact ⟨r'', by simp⟩
          clear hS0 hS d0 d1 d2 d3 d4 hp
          gi_wp2_with fail
          refine wpIn_only ?_
          refine wpIn_region_heldR (S := fun wx => ((wx.cell? ⟨w.heap.size, 1, none⟩ = some (ptr r) ∧ wx.cell? ⟨z6.heap.size, 0, none⟩ = some (.int .i64 (pre.length : Nat)) ∧ wx.cell? ⟨r, 3, none⟩ = some (.slice (some ⟨g, 0, none⟩) l.length crb)) ∧ (wx.cell? ⟨Bx, 0, none⟩ = some (.int .i64 s.id) ∧ wx.cell? ⟨Bx, 1, none⟩ = some (.int .i64 s.x) ∧ wx.cell? ⟨Bx, 2, none⟩ = some (.int .i64 s.y) ∧ wx.cell? ⟨Bx, 3, none⟩ = some (.int .i64 s.a) ∧ wx.cell? ⟨Bx, 4, none⟩ = some (.int .i64 s.b))) ∧ (wx.cell? ⟨g, pre.length * 5, none⟩ = some (.int .i64 s.id) ∧ wx.cell? ⟨g, pre.length * 5 + 1, none⟩ = some (.int .i64 s.x) ∧ wx.cell? ⟨g, pre.length * 5 + 2, none⟩ = some (.int .i64 s.y) ∧ wx.cell? ⟨g, pre.length * 5 + 3, none⟩ = some (.int .i64 s.a) ∧ wx.cell? ⟨g, pre.length * 5 + 4, none⟩ = some (.int .i64 s.b))) only_in (by kernel_rfl) (by kernel_rfl) (hSx.out _ (Below.refl _ _).drew) (fun hHeld => ?_)
          refine wpAnyH_take (i := 0) (v := ?_) rfl (by kernel_rfl) (by kernel_rfl) (by kernel_rfl) (fun _ _ _ h => h.elim) (Or.inl ⟨by rfl, ?_⟩) (by assumption) ?_
          rotate_left
          · intro wx hSw
            try dsimp only at hSw
            go_simp
            try with_reducible rfl
          try simp only [Act.put, List.getElem_toArray, List.getElem_cons_zero, List.getElem_cons_succ, List.setIfInBounds_toArray, List.set_cons_zero, List.set_cons_succ]
          refine wpAnyH_take (i := 1) (v := ?_) rfl (by kernel_rfl) (by kernel_rfl) (by kernel_rfl) (fun _ _ _ h => h.elim) (Or.inl ⟨by rfl, ?_⟩) (by assumption) ?_
          rotate_left
          · intro wx hSw
            try dsimp only at hSw
            go_simp
            try with_reducible rfl
          try simp only [Act.put, List.getElem_toArray, List.getElem_cons_zero, List.getElem_cons_succ, List.setIfInBounds_toArray, List.set_cons_zero, List.set_cons_succ]
          refine wpAnyH_take (i := 2) (v := ?_) rfl (by kernel_rfl) (by kernel_rfl) (by kernel_rfl) (fun _ _ _ h => h.elim) (Or.inl ⟨by rfl, ?_⟩) (by assumption) ?_
          rotate_left
          · intro wx hSw
            try dsimp only at hSw
            go_simp
            try with_reducible rfl
          try simp only [Act.put, List.getElem_toArray, List.getElem_cons_zero, List.getElem_cons_succ, List.setIfInBounds_toArray, List.set_cons_zero, List.set_cons_succ]
          refine wpAnyH_take (i := 3) (v := ?_) rfl (by kernel_rfl) (by kernel_rfl) (by kernel_rfl) (fun _ _ _ h => h.elim) (Or.inl ⟨by rfl, ?_⟩) (by assumption) ?_
          rotate_left
          · intro wx hSw
            try dsimp only at hSw
            go_simp
            try with_reducible rfl
          try simp only [Act.put, List.getElem_toArray, List.getElem_cons_zero, List.getElem_cons_succ, List.setIfInBounds_toArray, List.set_cons_zero, List.set_cons_succ]
          refine wpAnyH_take (i := 4) (v := ?_) rfl (by kernel_rfl) (by kernel_rfl) (by kernel_rfl) (fun _ _ _ h => h.elim) (Or.inl ⟨by rfl, ?_⟩) (by assumption) ?_
          rotate_left
          · intro wx hSw
            try dsimp only at hSw
            go_simp
            try with_reducible rfl
          try simp only [Act.put, List.getElem_toArray, List.getElem_cons_zero, List.getElem_cons_succ, List.setIfInBounds_toArray, List.set_cons_zero, List.set_cons_succ]
          refine wpAnyH_take (i := 5) (v := ?_) rfl (by kernel_rfl) (by kernel_rfl) (by kernel_rfl) (fun _ _ _ h => h.elim) (Or.inl ⟨by rfl, ?_⟩) (by assumption) ?_
          rotate_left
          · intro wx hSw
            try dsimp only at hSw
            go_simp
            try with_reducible rfl
          try simp only [Act.put, List.getElem_toArray, List.getElem_cons_zero, List.getElem_cons_succ, List.setIfInBounds_toArray, List.set_cons_zero, List.set_cons_succ]
          refine wpAnyH_take (i := 6) (v := ?_) rfl (by kernel_rfl) (by kernel_rfl) (by kernel_rfl) (fun _ _ _ h => h.elim) (Or.inl ⟨by rfl, ?_⟩) (by assumption) ?_
          rotate_left
          · intro wx hSw
            try dsimp only at hSw
            go_simp
            try with_reducible rfl
          try simp only [Act.put, List.getElem_toArray, List.getElem_cons_zero, List.getElem_cons_succ, List.setIfInBounds_toArray, List.set_cons_zero, List.set_cons_succ]
          refine wpAnyH_take (i := 7) (v := ?_) rfl (by kernel_rfl) (by kernel_rfl) (by kernel_rfl) (fun _ _ _ h => h.elim) (Or.inl ⟨by rfl, ?_⟩) (by assumption) ?_
          rotate_left
          · intro wx hSw
            try dsimp only at hSw
            go_simp
            try with_reducible rfl
          try simp only [Act.put, List.getElem_toArray, List.getElem_cons_zero, List.getElem_cons_succ, List.setIfInBounds_toArray, List.set_cons_zero, List.set_cons_succ]
          refine wpAnyH_take (i := 8) (v := ?_) rfl (by kernel_rfl) (by kernel_rfl) (by kernel_rfl) (fun _ _ _ h => h.elim) (Or.inl ⟨by rfl, ?_⟩) (by assumption) ?_
          rotate_left
          · intro wx hSw
            try dsimp only at hSw
            go_simp
            try with_reducible rfl
          try simp only [Act.put, List.getElem_toArray, List.getElem_cons_zero, List.getElem_cons_succ, List.setIfInBounds_toArray, List.set_cons_zero, List.set_cons_succ]
          refine wpAnyH_take (i := 9) (v := ?_) rfl (by kernel_rfl) (by kernel_rfl) (by kernel_rfl) (fun _ _ _ h => h.elim) (Or.inl ⟨by rfl, ?_⟩) (by assumption) ?_
          rotate_left
          · intro wx hSw
            try dsimp only at hSw
            go_simp
            try with_reducible rfl
          try simp only [Act.put, List.getElem_toArray, List.getElem_cons_zero, List.getElem_cons_succ, List.setIfInBounds_toArray, List.set_cons_zero, List.set_cons_succ]
          refine wpAnyH_take (i := 10) (v := ?_) rfl (by kernel_rfl) (by kernel_rfl) (by kernel_rfl) (fun _ _ _ h => h.elim) (Or.inl ⟨by rfl, ?_⟩) (by assumption) ?_
          rotate_left
          · intro wx hSw
            try dsimp only at hSw
            go_simp
            try with_reducible rfl
          try simp only [Act.put, List.getElem_toArray, List.getElem_cons_zero, List.getElem_cons_succ, List.setIfInBounds_toArray, List.set_cons_zero, List.set_cons_succ]
          refine wpAnyH_take (i := 11) (v := ?_) rfl (by kernel_rfl) (by kernel_rfl) (by kernel_rfl) (fun _ _ _ h => h.elim) (Or.inl ⟨by rfl, ?_⟩) (by assumption) ?_
          rotate_left
          · intro wx hSw
            try dsimp only at hSw
            go_simp
            try with_reducible rfl
          try simp only [Act.put, List.getElem_toArray, List.getElem_cons_zero, List.getElem_cons_succ, List.setIfInBounds_toArray, List.set_cons_zero, List.set_cons_succ]
          refine wpAnyH_take (i := 12) (v := ?_) rfl (by kernel_rfl) (by kernel_rfl) (by kernel_rfl) (fun _ _ _ h => h.elim) (Or.inl ⟨by rfl, ?_⟩) (by assumption) ?_
          rotate_left
          · intro wx hSw
            try dsimp only at hSw
            go_simp
            try with_reducible rfl
          try simp only [Act.put, List.getElem_toArray, List.getElem_cons_zero, List.getElem_cons_succ, List.setIfInBounds_toArray, List.set_cons_zero, List.set_cons_succ]
          refine wpAnyH_take (i := 13) (v := ?_) rfl (by kernel_rfl) (by kernel_rfl) (by kernel_rfl) (fun _ _ _ h => h.elim) (Or.inl ⟨by rfl, ?_⟩) (by assumption) ?_
          rotate_left
          · intro wx hSw
            try dsimp only at hSw
            go_simp
            try with_reducible rfl
          try simp only [Act.put, List.getElem_toArray, List.getElem_cons_zero, List.getElem_cons_succ, List.setIfInBounds_toArray, List.set_cons_zero, List.set_cons_succ]
          refine wpAnyH_take (i := 14) (v := ?_) rfl (by kernel_rfl) (by kernel_rfl) (by kernel_rfl) (fun _ _ _ h => h.elim) (Or.inl ⟨by rfl, ?_⟩) (by assumption) ?_
          rotate_left
          · intro wx hSw
            try dsimp only at hSw
            go_simp
            try with_reducible rfl
          try simp only [Act.put, List.getElem_toArray, List.getElem_cons_zero, List.getElem_cons_succ, List.setIfInBounds_toArray, List.set_cons_zero, List.set_cons_succ]
          refine wpAnyH_take (i := 15) (v := ?_) rfl (by kernel_rfl) (by kernel_rfl) (by kernel_rfl) (fun _ _ _ h => h.elim) (Or.inl ⟨by rfl, ?_⟩) (by assumption) ?_
          rotate_left
          · intro wx hSw
            try dsimp only at hSw
            go_simp
            try with_reducible rfl
          try simp only [Act.put, List.getElem_toArray, List.getElem_cons_zero, List.getElem_cons_succ, List.setIfInBounds_toArray, List.set_cons_zero, List.set_cons_succ]
          refine wpAnyH_take (i := 16) (v := ?_) rfl (by kernel_rfl) (by kernel_rfl) (by kernel_rfl) (fun _ _ _ h => h.elim) (Or.inl ⟨by rfl, ?_⟩) (by assumption) ?_
          rotate_left
          · intro wx hSw
            try dsimp only at hSw
            go_simp
            try with_reducible rfl
          try simp only [Act.put, List.getElem_toArray, List.getElem_cons_zero, List.getElem_cons_succ, List.setIfInBounds_toArray, List.set_cons_zero, List.set_cons_succ]
          refine wpAnyH_take (i := 17) (v := ?_) rfl (by kernel_rfl) (by kernel_rfl) (by kernel_rfl) (fun _ _ _ h => h.elim) (Or.inl ⟨by rfl, ?_⟩) (by assumption) ?_
          rotate_left
          · intro wx hSw
            try dsimp only at hSw
            go_simp
            try with_reducible rfl
          try simp only [Act.put, List.getElem_toArray, List.getElem_cons_zero, List.getElem_cons_succ, List.setIfInBounds_toArray, List.set_cons_zero, List.set_cons_succ]
          refine wpAnyH_take (i := 18) (v := ?_) rfl (by kernel_rfl) (by kernel_rfl) (by kernel_rfl) (fun _ _ _ h => h.elim) (Or.inl ⟨by rfl, ?_⟩) (by assumption) ?_
          rotate_left
          · intro wx hSw
            try dsimp only at hSw
            go_simp
            try with_reducible rfl
          try simp only [Act.put, List.getElem_toArray, List.getElem_cons_zero, List.getElem_cons_succ, List.setIfInBounds_toArray, List.set_cons_zero, List.set_cons_succ]
          refine wpAnyH_take (i := 19) (v := ?_) rfl (by kernel_rfl) (by kernel_rfl) (by kernel_rfl) (fun _ _ _ h => h.elim) (Or.inl ⟨by rfl, ?_⟩) (by assumption) ?_
          rotate_left
          · intro wx hSw
            try dsimp only at hSw
            go_simp
            try with_reducible rfl
          try simp only [Act.put, List.getElem_toArray, List.getElem_cons_zero, List.getElem_cons_succ, List.setIfInBounds_toArray, List.set_cons_zero, List.set_cons_succ]
          refine wpAnyH_done (by kernel_rfl) ?_ _
          dsimp only [Only, Exit.then]
          gi_wp2_with fail
          refine ⟨Keep.set X (p := ⟨z6.heap.size, 0, none⟩) _ (by simp; omega), trivial, ⟨⟨⟨hpre, ?_⟩, (hB.setCell (p := ⟨z6.heap.size, 0, none⟩) (Nat.le_refl _) _).drew⟩, by simp [World.setCell]; omega⟩⟩
          rw [show (((pre ++ [s]).length : Nat) : Int) = (pre.length : Nat) + 1 by simp]
          exact bI.set _
        · have hpre : ¬ pre ++ [t] <+: l := by
            rintro ⟨r', hr'⟩
            rw [← hr', List.append_assoc, List.getElem?_append_right (Nat.le_refl _), Nat.sub_self] at hs
            simp at hs
            exact hst hs.symm
          have hneq := fun wx => neqB hst wx
          clear hS0 hS d0 d1 d2 d3 d4 hp hs
          gi_wp2_with fail
          refine wpIn_only ?_
          refine wpIn_region_heldR (S := fun wx => ((wx.cell? ⟨w.heap.size, 1, none⟩ = some (ptr r) ∧ wx.cell? ⟨z6.heap.size, 0, none⟩ = some (.int .i64 (pre.length : Nat)) ∧ wx.cell? ⟨r, 3, none⟩ = some (.slice (some ⟨g, 0, none⟩) l.length crb)) ∧ (wx.cell? ⟨Bx, 0, none⟩ = some (.int .i64 t.id) ∧ wx.cell? ⟨Bx, 1, none⟩ = some (.int .i64 t.x) ∧ wx.cell? ⟨Bx, 2, none⟩ = some (.int .i64 t.y) ∧ wx.cell? ⟨Bx, 3, none⟩ = some (.int .i64 t.a) ∧ wx.cell? ⟨Bx, 4, none⟩ = some (.int .i64 t.b))) ∧ (wx.cell? ⟨g, pre.length * 5, none⟩ = some (.int .i64 s.id) ∧ wx.cell? ⟨g, pre.length * 5 + 1, none⟩ = some (.int .i64 s.x) ∧ wx.cell? ⟨g, pre.length * 5 + 2, none⟩ = some (.int .i64 s.y) ∧ wx.cell? ⟨g, pre.length * 5 + 3, none⟩ = some (.int .i64 s.a) ∧ wx.cell? ⟨g, pre.length * 5 + 4, none⟩ = some (.int .i64 s.b))) only_in (by kernel_rfl) (by kernel_rfl) (hSx.out _ (Below.refl _ _).drew) (fun hHeld => ?_)
          refine wpAnyH_take (i := 0) (v := ?_) rfl (by kernel_rfl) (by kernel_rfl) (by kernel_rfl) (fun _ _ _ h => h.elim) (Or.inl ⟨by rfl, ?_⟩) (by assumption) ?_
          rotate_left
          · intro wx hSw
            try dsimp only at hSw
            go_simp
            try with_reducible rfl
          try simp only [Act.put, List.getElem_toArray, List.getElem_cons_zero, List.getElem_cons_succ, List.setIfInBounds_toArray, List.set_cons_zero, List.set_cons_succ]
          refine wpAnyH_take (i := 1) (v := ?_) rfl (by kernel_rfl) (by kernel_rfl) (by kernel_rfl) (fun _ _ _ h => h.elim) (Or.inl ⟨by rfl, ?_⟩) (by assumption) ?_
          rotate_left
          · intro wx hSw
            try dsimp only at hSw
            go_simp
            try with_reducible rfl
          try simp only [Act.put, List.getElem_toArray, List.getElem_cons_zero, List.getElem_cons_succ, List.setIfInBounds_toArray, List.set_cons_zero, List.set_cons_succ]
          refine wpAnyH_take (i := 2) (v := ?_) rfl (by kernel_rfl) (by kernel_rfl) (by kernel_rfl) (fun _ _ _ h => h.elim) (Or.inl ⟨by rfl, ?_⟩) (by assumption) ?_
          rotate_left
          · intro wx hSw
            try dsimp only at hSw
            go_simp
            try with_reducible rfl
          try simp only [Act.put, List.getElem_toArray, List.getElem_cons_zero, List.getElem_cons_succ, List.setIfInBounds_toArray, List.set_cons_zero, List.set_cons_succ]
          refine wpAnyH_take (i := 3) (v := ?_) rfl (by kernel_rfl) (by kernel_rfl) (by kernel_rfl) (fun _ _ _ h => h.elim) (Or.inl ⟨by rfl, ?_⟩) (by assumption) ?_
          rotate_left
          · intro wx hSw
            try dsimp only at hSw
            go_simp
            try with_reducible rfl
          try simp only [Act.put, List.getElem_toArray, List.getElem_cons_zero, List.getElem_cons_succ, List.setIfInBounds_toArray, List.set_cons_zero, List.set_cons_succ]
          refine wpAnyH_take (i := 4) (v := ?_) rfl (by kernel_rfl) (by kernel_rfl) (by kernel_rfl) (fun _ _ _ h => h.elim) (Or.inl ⟨by rfl, ?_⟩) (by assumption) ?_
          rotate_left
          · intro wx hSw
            try dsimp only at hSw
            go_simp
            try with_reducible rfl
          try simp only [Act.put, List.getElem_toArray, List.getElem_cons_zero, List.getElem_cons_succ, List.setIfInBounds_toArray, List.set_cons_zero, List.set_cons_succ]
          refine wpAnyH_take (i := 5) (v := ?_) rfl (by kernel_rfl) (by kernel_rfl) (by kernel_rfl) (fun _ _ _ h => h.elim) (Or.inl ⟨by rfl, ?_⟩) (by assumption) ?_
          rotate_left
          · intro wx hSw
            try dsimp only at hSw
            go_simp
            try with_reducible rfl
          try simp only [Act.put, List.getElem_toArray, List.getElem_cons_zero, List.getElem_cons_succ, List.setIfInBounds_toArray, List.set_cons_zero, List.set_cons_succ]
          refine wpAnyH_take (i := 6) (v := ?_) rfl (by kernel_rfl) (by kernel_rfl) (by kernel_rfl) (fun _ _ _ h => h.elim) (Or.inl ⟨by rfl, ?_⟩) (by assumption) ?_
          rotate_left
          · intro wx hSw
            try dsimp only at hSw
            go_simp
            try with_reducible rfl
          try simp only [Act.put, List.getElem_toArray, List.getElem_cons_zero, List.getElem_cons_succ, List.setIfInBounds_toArray, List.set_cons_zero, List.set_cons_succ]
          refine wpAnyH_take (i := 7) (v := ?_) rfl (by kernel_rfl) (by kernel_rfl) (by kernel_rfl) (fun _ _ _ h => h.elim) (Or.inl ⟨by rfl, ?_⟩) (by assumption) ?_
          rotate_left
          · intro wx hSw
            try dsimp only at hSw
            go_simp
            try with_reducible rfl
          try simp only [Act.put, List.getElem_toArray, List.getElem_cons_zero, List.getElem_cons_succ, List.setIfInBounds_toArray, List.set_cons_zero, List.set_cons_succ]
          refine wpAnyH_take (i := 8) (v := ?_) rfl (by kernel_rfl) (by kernel_rfl) (by kernel_rfl) (fun _ _ _ h => h.elim) (Or.inl ⟨by rfl, ?_⟩) (by assumption) ?_
          rotate_left
          · intro wx hSw
            try dsimp only at hSw
            go_simp
            try with_reducible rfl
          try simp only [Act.put, List.getElem_toArray, List.getElem_cons_zero, List.getElem_cons_succ, List.setIfInBounds_toArray, List.set_cons_zero, List.set_cons_succ]
          refine wpAnyH_take (i := 9) (v := ?_) rfl (by kernel_rfl) (by kernel_rfl) (by kernel_rfl) (fun _ _ _ h => h.elim) (Or.inl ⟨by rfl, ?_⟩) (by assumption) ?_
          rotate_left
          · intro wx hSw
            try dsimp only at hSw
            go_simp
            try with_reducible rfl
          try simp only [Act.put, List.getElem_toArray, List.getElem_cons_zero, List.getElem_cons_succ, List.setIfInBounds_toArray, List.set_cons_zero, List.set_cons_succ]
          refine wpAnyH_take (i := 10) (v := ?_) rfl (by kernel_rfl) (by kernel_rfl) (by kernel_rfl) (fun _ _ _ h => h.elim) (Or.inl ⟨by rfl, ?_⟩) (by assumption) ?_
          rotate_left
          · intro wx hSw
            try dsimp only at hSw
            go_simp
            try with_reducible rfl
          try simp only [Act.put, List.getElem_toArray, List.getElem_cons_zero, List.getElem_cons_succ, List.setIfInBounds_toArray, List.set_cons_zero, List.set_cons_succ]
          refine wpAnyH_take (i := 11) (v := ?_) rfl (by kernel_rfl) (by kernel_rfl) (by kernel_rfl) (fun _ _ _ h => h.elim) (Or.inl ⟨by rfl, ?_⟩) (by assumption) ?_
          rotate_left
          · intro wx hSw
            try dsimp only at hSw
            go_simp
            try with_reducible rfl
          try simp only [Act.put, List.getElem_toArray, List.getElem_cons_zero, List.getElem_cons_succ, List.setIfInBounds_toArray, List.set_cons_zero, List.set_cons_succ]
          refine wpAnyH_take (i := 12) (v := ?_) rfl (by kernel_rfl) (by kernel_rfl) (by kernel_rfl) (fun _ _ _ h => h.elim) (Or.inl ⟨by rfl, ?_⟩) (by assumption) ?_
          rotate_left
          · intro wx hSw
            try dsimp only at hSw
            go_simp
            try with_reducible rfl
          try simp only [Act.put, List.getElem_toArray, List.getElem_cons_zero, List.getElem_cons_succ, List.setIfInBounds_toArray, List.set_cons_zero, List.set_cons_succ]
          refine wpAnyH_take (i := 13) (v := ?_) rfl (by kernel_rfl) (by kernel_rfl) (by kernel_rfl) (fun _ _ _ h => h.elim) (Or.inl ⟨by rfl, ?_⟩) (by assumption) ?_
          rotate_left
          · intro wx hSw
            try dsimp only at hSw
            go_simp
            try with_reducible rfl
          try simp only [Act.put, List.getElem_toArray, List.getElem_cons_zero, List.getElem_cons_succ, List.setIfInBounds_toArray, List.set_cons_zero, List.set_cons_succ]
          refine wpAnyH_take (i := 14) (v := ?_) rfl (by kernel_rfl) (by kernel_rfl) (by kernel_rfl) (fun _ _ _ h => h.elim) (Or.inl ⟨by rfl, ?_⟩) (by assumption) ?_
          rotate_left
          · intro wx hSw
            try dsimp only at hSw
            go_simp
            try with_reducible rfl
          try simp only [Act.put, List.getElem_toArray, List.getElem_cons_zero, List.getElem_cons_succ, List.setIfInBounds_toArray, List.set_cons_zero, List.set_cons_succ]
          refine wpAnyH_take (i := 15) (v := ?_) rfl (by kernel_rfl) (by kernel_rfl) (by kernel_rfl) (fun _ _ _ h => h.elim) (Or.inl ⟨by rfl, ?_⟩) (by assumption) ?_
          rotate_left
          · intro wx hSw
            try dsimp only at hSw
            go_simp
            try with_reducible rfl
          try simp only [Act.put, List.getElem_toArray, List.getElem_cons_zero, List.getElem_cons_succ, List.setIfInBounds_toArray, List.set_cons_zero, List.set_cons_succ]
          refine wpAnyH_take (i := 16) (v := ?_) rfl (by kernel_rfl) (by kernel_rfl) (by kernel_rfl) (fun _ _ _ h => h.elim) (Or.inl ⟨by rfl, ?_⟩) (by assumption) ?_
          rotate_left
          · intro wx hSw
            try dsimp only at hSw
            go_simp
            try with_reducible rfl
          try simp only [Act.put, List.getElem_toArray, List.getElem_cons_zero, List.getElem_cons_succ, List.setIfInBounds_toArray, List.set_cons_zero, List.set_cons_succ]
          refine wpAnyH_take (i := 17) (v := ?_) rfl (by kernel_rfl) (by kernel_rfl) (by kernel_rfl) (fun _ _ _ h => h.elim) (Or.inl ⟨by rfl, ?_⟩) (by assumption) ?_
          rotate_left
          · intro wx hSw
            try dsimp only at hSw
            go_simp
            try with_reducible rfl
          try simp only [Act.put, List.getElem_toArray, List.getElem_cons_zero, List.getElem_cons_succ, List.setIfInBounds_toArray, List.set_cons_zero, List.set_cons_succ]
          refine wpAnyH_take (i := 18) (v := ?_) rfl (by kernel_rfl) (by kernel_rfl) (by kernel_rfl) (fun _ _ _ h => h.elim) (Or.inl ⟨by rfl, ?_⟩) (by assumption) ?_
          rotate_left
          · intro wx hSw
            try dsimp only at hSw
            go_simp
            try with_reducible rfl
          try simp only [Act.put, List.getElem_toArray, List.getElem_cons_zero, List.getElem_cons_succ, List.setIfInBounds_toArray, List.set_cons_zero, List.set_cons_succ]
          refine wpAnyH_take (i := 19) (v := ?_) rfl (by kernel_rfl) (by kernel_rfl) (by kernel_rfl) (fun _ _ _ h => h.elim) (Or.inl ⟨by rfl, ?_⟩) (by assumption) ?_
          rotate_left
          · intro wx hSw
            try dsimp only at hSw
            go_simp
            try with_reducible rfl
          try simp only [Act.put, List.getElem_toArray, List.getElem_cons_zero, List.getElem_cons_succ, List.setIfInBounds_toArray, List.set_cons_zero, List.set_cons_succ]
          refine wpAnyH_done (by kernel_rfl) ?_ _
          dsimp only [Only, Exit.then]
          gi_wp2_with fail
          exact ⟨Keep.set X (p := ⟨w.heap.size + 1, 0, none⟩) _ (by simp; omega), hpre⟩
      · have hpre : ¬ pre ++ [t] <+: l := fun h => by
          have := h.length_le
          simp at this
          omega
        have hki : ((l.length : Nat) : Int) ≤ (pre.length : Nat) := by omega
        have hkd := decide_eq_true hki
        have hkd2 : decide (l.length ≤ pre.length) = true := decide_eq_true (by omega)
        have hSx := hide hS0
        clear hS0 hp
        gi_wp2_with fail
        refine wpIn_only ?_
        refine wpIn_region_heldR (S := fun wx => (wx.cell? ⟨w.heap.size, 1, none⟩ = some (ptr r) ∧ wx.cell? ⟨z6.heap.size, 0, none⟩ = some (.int .i64 (pre.length : Nat)) ∧ wx.cell? ⟨r, 3, none⟩ = some (.slice arb l.length crb)) ∧ (wx.cell? ⟨Bx, 0, none⟩ = some (.int .i64 t.id) ∧ wx.cell? ⟨Bx, 1, none⟩ = some (.int .i64 t.x) ∧ wx.cell? ⟨Bx, 2, none⟩ = some (.int .i64 t.y) ∧ wx.cell? ⟨Bx, 3, none⟩ = some (.int .i64 t.a) ∧ wx.cell? ⟨Bx, 4, none⟩ = some (.int .i64 t.b))) only_in (by kernel_rfl) (by kernel_rfl) (hSx.out _ (Below.refl _ _).drew) (fun hHeld => ?_)
        refine wpAnyH_take (i := 0) (v := ?_) rfl (by kernel_rfl) (by kernel_rfl) (by kernel_rfl) (fun _ _ _ h => h.elim) (Or.inl ⟨by rfl, ?_⟩) (by assumption) ?_
        rotate_left
        · intro wx hSw
          try dsimp only at hSw
          go_simp
          try with_reducible rfl
        try simp only [Act.put, List.getElem_toArray, List.getElem_cons_zero, List.getElem_cons_succ, List.setIfInBounds_toArray, List.set_cons_zero, List.set_cons_succ]
        refine wpAnyH_take (i := 1) (v := ?_) rfl (by kernel_rfl) (by kernel_rfl) (by kernel_rfl) (fun _ _ _ h => h.elim) (Or.inl ⟨by rfl, ?_⟩) (by assumption) ?_
        rotate_left
        · intro wx hSw
          try dsimp only at hSw
          go_simp
          try with_reducible rfl
        try simp only [Act.put, List.getElem_toArray, List.getElem_cons_zero, List.getElem_cons_succ, List.setIfInBounds_toArray, List.set_cons_zero, List.set_cons_succ]
        refine wpAnyH_take (i := 2) (v := ?_) rfl (by kernel_rfl) (by kernel_rfl) (by kernel_rfl) (fun _ _ _ h => h.elim) (Or.inl ⟨by rfl, ?_⟩) (by assumption) ?_
        rotate_left
        · intro wx hSw
          try dsimp only at hSw
          go_simp
          try with_reducible rfl
        try simp only [Act.put, List.getElem_toArray, List.getElem_cons_zero, List.getElem_cons_succ, List.setIfInBounds_toArray, List.set_cons_zero, List.set_cons_succ]
        refine wpAnyH_take (i := 3) (v := ?_) rfl (by kernel_rfl) (by kernel_rfl) (by kernel_rfl) (fun _ _ _ h => h.elim) (Or.inl ⟨by rfl, ?_⟩) (by assumption) ?_
        rotate_left
        · intro wx hSw
          try dsimp only at hSw
          go_simp
          try with_reducible rfl
        try simp only [Act.put, List.getElem_toArray, List.getElem_cons_zero, List.getElem_cons_succ, List.setIfInBounds_toArray, List.set_cons_zero, List.set_cons_succ]
        refine wpAnyH_take (i := 4) (v := ?_) rfl (by kernel_rfl) (by kernel_rfl) (by kernel_rfl) (fun _ _ _ h => h.elim) (Or.inl ⟨by rfl, ?_⟩) (by assumption) ?_
        rotate_left
        · intro wx hSw
          try dsimp only at hSw
          go_simp
          try with_reducible rfl
        try simp only [Act.put, List.getElem_toArray, List.getElem_cons_zero, List.getElem_cons_succ, List.setIfInBounds_toArray, List.set_cons_zero, List.set_cons_succ]
        refine wpAnyH_take (i := 5) (v := ?_) rfl (by kernel_rfl) (by kernel_rfl) (by kernel_rfl) (fun _ _ _ h => h.elim) (Or.inl ⟨by rfl, ?_⟩) (by assumption) ?_
        rotate_left
        · intro wx hSw
          try dsimp only at hSw
          go_simp
          try with_reducible rfl
        try simp only [Act.put, List.getElem_toArray, List.getElem_cons_zero, List.getElem_cons_succ, List.setIfInBounds_toArray, List.set_cons_zero, List.set_cons_succ]
        refine wpAnyH_take (i := 6) (v := ?_) rfl (by kernel_rfl) (by kernel_rfl) (by kernel_rfl) (fun _ _ _ h => h.elim) (Or.inl ⟨by rfl, ?_⟩) (by assumption) ?_
        rotate_left
        · intro wx hSw
          try dsimp only at hSw
          go_simp
          try with_reducible rfl
        try simp only [Act.put, List.getElem_toArray, List.getElem_cons_zero, List.getElem_cons_succ, List.setIfInBounds_toArray, List.set_cons_zero, List.set_cons_succ]
        refine wpAnyH_take (i := 7) (v := ?_) rfl (by kernel_rfl) (by kernel_rfl) (by kernel_rfl) (fun _ _ _ h => h.elim) (Or.inl ⟨by rfl, ?_⟩) (by assumption) ?_
        rotate_left
        · intro wx hSw
          try dsimp only at hSw
          go_simp
          try with_reducible rfl
        try simp only [Act.put, List.getElem_toArray, List.getElem_cons_zero, List.getElem_cons_succ, List.setIfInBounds_toArray, List.set_cons_zero, List.set_cons_succ]
        refine wpAnyH_take (i := 8) (v := ?_) rfl (by kernel_rfl) (by kernel_rfl) (by kernel_rfl) (fun _ _ _ h => h.elim) (Or.inl ⟨by rfl, ?_⟩) (by assumption) ?_
        rotate_left
        · intro wx hSw
          try dsimp only at hSw
          go_simp
          try with_reducible rfl
        try simp only [Act.put, List.getElem_toArray, List.getElem_cons_zero, List.getElem_cons_succ, List.setIfInBounds_toArray, List.set_cons_zero, List.set_cons_succ]
        refine wpAnyH_take (i := 9) (v := undef) rfl (by kernel_rfl) (by kernel_rfl) (by kernel_rfl) (fun _ _ _ h => h.elim) (Or.inr ⟨by rfl, rfl⟩) (by assumption) ?_
        try simp only [Act.put, List.getElem_toArray, List.getElem_cons_zero, List.getElem_cons_succ, List.setIfInBounds_toArray, List.set_cons_zero, List.set_cons_succ]
        refine wpAnyH_take (i := 10) (v := undef) rfl (by kernel_rfl) (by kernel_rfl) (by kernel_rfl) (fun _ _ _ h => h.elim) (Or.inr ⟨by rfl, rfl⟩) (by assumption) ?_
        try simp only [Act.put, List.getElem_toArray, List.getElem_cons_zero, List.getElem_cons_succ, List.setIfInBounds_toArray, List.set_cons_zero, List.set_cons_succ]
        refine wpAnyH_take (i := 11) (v := undef) rfl (by kernel_rfl) (by kernel_rfl) (by kernel_rfl) (fun _ _ _ h => h.elim) (Or.inr ⟨by rfl, rfl⟩) (by assumption) ?_
        try simp only [Act.put, List.getElem_toArray, List.getElem_cons_zero, List.getElem_cons_succ, List.setIfInBounds_toArray, List.set_cons_zero, List.set_cons_succ]
        refine wpAnyH_take (i := 12) (v := undef) rfl (by kernel_rfl) (by kernel_rfl) (by kernel_rfl) (fun _ _ _ h => h.elim) (Or.inr ⟨by rfl, rfl⟩) (by assumption) ?_
        try simp only [Act.put, List.getElem_toArray, List.getElem_cons_zero, List.getElem_cons_succ, List.setIfInBounds_toArray, List.set_cons_zero, List.set_cons_succ]
        refine wpAnyH_take (i := 13) (v := undef) rfl (by kernel_rfl) (by kernel_rfl) (by kernel_rfl) (fun _ _ _ h => h.elim) (Or.inr ⟨by rfl, rfl⟩) (by assumption) ?_
        try simp only [Act.put, List.getElem_toArray, List.getElem_cons_zero, List.getElem_cons_succ, List.setIfInBounds_toArray, List.set_cons_zero, List.set_cons_succ]
        refine wpAnyH_take (i := 14) (v := undef) rfl (by kernel_rfl) (by kernel_rfl) (by kernel_rfl) (fun _ _ _ h => h.elim) (Or.inr ⟨by rfl, rfl⟩) (by assumption) ?_
        try simp only [Act.put, List.getElem_toArray, List.getElem_cons_zero, List.getElem_cons_succ, List.setIfInBounds_toArray, List.set_cons_zero, List.set_cons_succ]
        refine wpAnyH_take (i := 15) (v := undef) rfl (by kernel_rfl) (by kernel_rfl) (by kernel_rfl) (fun _ _ _ h => h.elim) (Or.inr ⟨by rfl, rfl⟩) (by assumption) ?_
        try simp only [Act.put, List.getElem_toArray, List.getElem_cons_zero, List.getElem_cons_succ, List.setIfInBounds_toArray, List.set_cons_zero, List.set_cons_succ]
        refine wpAnyH_take (i := 16) (v := undef) rfl (by kernel_rfl) (by kernel_rfl) (by kernel_rfl) (fun _ _ _ h => h.elim) (Or.inr ⟨by rfl, rfl⟩) (by assumption) ?_
        try simp only [Act.put, List.getElem_toArray, List.getElem_cons_zero, List.getElem_cons_succ, List.setIfInBounds_toArray, List.set_cons_zero, List.set_cons_succ]
        refine wpAnyH_take (i := 17) (v := undef) rfl (by kernel_rfl) (by kernel_rfl) (by kernel_rfl) (fun _ _ _ h => h.elim) (Or.inr ⟨by rfl, rfl⟩) (by assumption) ?_
        try simp only [Act.put, List.getElem_toArray, List.getElem_cons_zero, List.getElem_cons_succ, List.setIfInBounds_toArray, List.set_cons_zero, List.set_cons_succ]
        refine wpAnyH_take (i := 18) (v := undef) rfl (by kernel_rfl) (by kernel_rfl) (by kernel_rfl) (fun _ _ _ h => h.elim) (Or.inr ⟨by rfl, rfl⟩) (by assumption) ?_
        try simp only [Act.put, List.getElem_toArray, List.getElem_cons_zero, List.getElem_cons_succ, List.setIfInBounds_toArray, List.set_cons_zero, List.set_cons_succ]
        refine wpAnyH_take (i := 19) (v := ?_) rfl (by kernel_rfl) (by kernel_rfl) (by kernel_rfl) (fun _ _ _ h => h.elim) (Or.inl ⟨by rfl, ?_⟩) (by assumption) ?_
        rotate_left
        · intro wx hSw
          try dsimp only at hSw
          go_simp
          try with_reducible rfl
        try simp only [Act.put, List.getElem_toArray, List.getElem_cons_zero, List.getElem_cons_succ, List.setIfInBounds_toArray, List.set_cons_zero, List.set_cons_succ]
        refine wpAnyH_done (by kernel_rfl) ?_ _
        dsimp only [Only, Exit.then]
        gi_wp2_with fail
        exact ⟨Keep.set X (p := ⟨w.heap.size + 1, 0, none⟩) _ (by simp; omega), hpre⟩
    case done =>
      rintro D xs X hD rfl ⟨⟨⟨hp, bI⟩, hB⟩, hz⟩ hK
      have BYX : Below Y.heap.size Y X := bt hX6 hB
      have RX := RY.kept BYX
      have QX : Boxed X (w.heap.size + 1) 4 (.bool false) := (BYX.block _ (by omega)).trans QY
      obtain ⟨arb, crb, hrb, -⟩ := (HZZ.out _ BYX).b'.form
      have cR := QX.cell
      have fR := QX.frozen
      have ll : ((xs.length : Nat) : Int) ≤ 256 := by have := hF.len; omega
      have hSx : Hid (∀ wx, Below X.heap.size X wx → wx.cell? ⟨z6.heap.size, 0, none⟩ = some (.int .i64 (xs.length : Nat)) ∧ wx.cell? ⟨w.heap.size, 1, none⟩ = some (ptr r) ∧ wx.cell? ⟨r, 3, none⟩ = some (.slice arb xs.length crb)) := hide fun wx hx => by
        have b1 := RX.kept hx
        exact ⟨boxI hx bI, b1.c.2.1, by rw [← hrb]; exact (HZZ.out _ (bt BYX hx)).d'.c 3⟩
      have HBX := hide (bt BXY BYX)
      have hrl := h.d'.lt
      gi_wp2_with fail
      refine wpIn_wide.2 ?_
      refine wp_only ?_
      refine wp_region_held_drew (S := fun wx => wx.cell? ⟨z6.heap.size, 0, none⟩ = some (.int .i64 (xs.length : Nat)) ∧ wx.cell? ⟨w.heap.size, 1, none⟩ = some (ptr r) ∧ wx.cell? ⟨r, 3, none⟩ = some (.slice arb xs.length crb)) (by kernel_rfl) (hSx.out _ (Below.refl _ _).drew) (fun hHeld => ?_)
      refine wpAnyH_take (i := 0) (v := ?_) rfl (by kernel_rfl) (by kernel_rfl) (by kernel_rfl) (fun _ _ _ h => h.elim) (Or.inl ⟨by rfl, ?_⟩) (by assumption) ?_
      rotate_left
      · intro wx hSw
        try dsimp only at hSw
        go_simp
        try with_reducible rfl
      try simp only [Act.put, List.getElem_toArray, List.getElem_cons_zero, List.getElem_cons_succ, List.setIfInBounds_toArray, List.set_cons_zero, List.set_cons_succ]
      refine wpAnyH_take (i := 1) (v := ?_) rfl (by kernel_rfl) (by kernel_rfl) (by kernel_rfl) (fun _ _ _ h => h.elim) (Or.inl ⟨by rfl, ?_⟩) (by assumption) ?_
      rotate_left
      · intro wx hSw
        try dsimp only at hSw
        go_simp
        try with_reducible rfl
      try simp only [Act.put, List.getElem_toArray, List.getElem_cons_zero, List.getElem_cons_succ, List.setIfInBounds_toArray, List.set_cons_zero, List.set_cons_succ]
      refine wpAnyH_take (i := 2) (v := ?_) rfl (by kernel_rfl) (by kernel_rfl) (by kernel_rfl) (fun _ _ _ h => h.elim) (Or.inl ⟨by rfl, ?_⟩) (by assumption) ?_
      rotate_left
      · intro wx hSw
        try dsimp only at hSw
        go_simp
        try with_reducible rfl
      try simp only [Act.put, List.getElem_toArray, List.getElem_cons_zero, List.getElem_cons_succ, List.setIfInBounds_toArray, List.set_cons_zero, List.set_cons_succ]
      refine wpAnyH_take (i := 3) (v := ?_) rfl (by kernel_rfl) (by kernel_rfl) (by kernel_rfl) (fun _ _ _ h => h.elim) (Or.inl ⟨by rfl, ?_⟩) (by assumption) ?_
      rotate_left
      · intro wx hSw
        try dsimp only at hSw
        go_simp
        try with_reducible rfl
      try simp only [Act.put, List.getElem_toArray, List.getElem_cons_zero, List.getElem_cons_succ, List.setIfInBounds_toArray, List.set_cons_zero, List.set_cons_succ]
      refine wpAnyH_take (i := 4) (v := ?_) rfl (by kernel_rfl) (by kernel_rfl) (by kernel_rfl) (fun _ _ _ h => h.elim) (Or.inl ⟨by rfl, ?_⟩) (by assumption) ?_
      rotate_left
      · intro wx hSw
        try dsimp only at hSw
        go_simp
        try with_reducible rfl
      try simp only [Act.put, List.getElem_toArray, List.getElem_cons_zero, List.getElem_cons_succ, List.setIfInBounds_toArray, List.set_cons_zero, List.set_cons_succ]
      refine wpAnyH_take (i := 5) (v := ?_) rfl (by kernel_rfl) (by kernel_rfl) (by kernel_rfl) (fun _ _ _ h => h.elim) (Or.inl ⟨by rfl, ?_⟩) (by assumption) ?_
      rotate_left
      · intro wx hSw
        try dsimp only at hSw
        go_simp
        try with_reducible rfl
      try simp only [Act.put, List.getElem_toArray, List.getElem_cons_zero, List.getElem_cons_succ, List.setIfInBounds_toArray, List.set_cons_zero, List.set_cons_succ]
      refine wpAnyH_take (i := 6) (v := ?_) rfl (by kernel_rfl) (by kernel_rfl) (by kernel_rfl) (fun _ _ _ h => h.elim) (Or.inl ⟨by rfl, ?_⟩) (by assumption) ?_
      rotate_left
      · intro wx hSw
        try dsimp only at hSw
        go_simp
        try with_reducible rfl
      try simp only [Act.put, List.getElem_toArray, List.getElem_cons_zero, List.getElem_cons_succ, List.setIfInBounds_toArray, List.set_cons_zero, List.set_cons_succ]
      refine wpAnyH_take (i := 7) (v := ?_) rfl (by kernel_rfl) (by kernel_rfl) (by kernel_rfl) (fun _ _ _ h => h.elim) (Or.inl ⟨by rfl, ?_⟩) (by assumption) ?_
      rotate_left
      · intro wx hSw
        try dsimp only at hSw
        go_simp
        try with_reducible rfl
      try simp only [Act.put, List.getElem_toArray, List.getElem_cons_zero, List.getElem_cons_succ, List.setIfInBounds_toArray, List.set_cons_zero, List.set_cons_succ]
      refine wpAnyH_ready (rs := [8]) (by kernel_rfl) (by simp) ?_
      refine AllReadyH.cons rfl (fun K hK => ?_) ?_
      · go_simp
        refine hK.out _ _ ?_ (fun hHeld => ?_)
        · first | exact hSx.out _ (Below.refl _ _).drew | (obtain ⟨q1, q2, q3⟩ := hSx.out _ (Below.refl _ _).drew; exact ⟨cell_oth q1 (by omega), cell_oth q2 (by omega), cell_oth q3 (by omega)⟩)
        clear hK K
        try simp only [Act.put, List.getElem_toArray, List.getElem_cons_zero, List.getElem_cons_succ, List.setIfInBounds_toArray, List.set_cons_zero, List.set_cons_succ]
        refine wpAnyH_done (by kernel_rfl) ?_ _
        dsimp only [Only, Exit.then]
        gi_wp2_with fail
        have hK3 : (X.setCell ⟨w.heap.size + 1, 0, none⟩ (.bool true)).drew.heap[D]? = some (.deferred (some [])) := (Below.heap_setCell X ⟨w.heap.size + 1, 0, none⟩ (.bool true) D (by simp; omega)).trans hK
        refine ⟨by simp, .inl ⟨_, _, rfl, run_takeDeferred hK3, ?_⟩⟩
        have hQ5 : Boxed ((X.setCell ⟨w.heap.size + 1, 0, none⟩ (.bool true)).drew.putObj D (.deferred none)) (w.heap.size + 1) 4 (.bool true) := (World.putObj_heap_other (by omega)).trans (QX.set (.bool true))
        have hc5 := hQ5.cell
        have hB5 : Below w.heap.size w (X.setCell ⟨w.heap.size + 1, 0, none⟩ (.bool true)).drew := (HBX.out.setCell (p := ⟨w.heap.size + 1, 0, none⟩) (by simp) _).drew
        refine ⟨.bool true, ?_, rfl, ⟨hB5.os, hB5.tape, hB5.output, by have := hB5.size; simp at this ⊢; omega, fun k hk => (World.putObj_heap_other (by omega)).trans (hB5.block k hk)⟩⟩
        simp [results, Try.f9, go_sem, hc5]
      exact AllReadyH.nil
    case stop =>
      rintro D pre X hD hpre hnot hK
      exact absurd hpre hnot
  refine wpIn_wide.2 ?_
  refine wp_region_held_drew (S := fun wx => (wx.cell? ⟨w.heap.size, 0, none⟩ = some (ptr p) ∧ wx.cell? ⟨w.heap.size, 1, none⟩ = some (ptr r) ∧ wx.cell? ⟨r, 4, none⟩ = some (.slice ae es.length ce)) ∧ wx.cell? ⟨w1.heap.size, 0, none⟩ = some (.int .i64 0) ∧ wx.cell? ⟨w1.heap.size, 1, none⟩ = some (.int .i64 0) ∧ wx.cell? ⟨w1.heap.size, 2, none⟩ = some (.int .i64 W) ∧ wx.cell? ⟨w1.heap.size, 3, none⟩ = some (.int .i64 H)) (by kernel_rfl) (HS.out _ (Below.refl _ _).drew) (fun hHeld => ?_)
  refine wpAnyH_take (i := 0) (v := ?_) rfl (by kernel_rfl) (by kernel_rfl) (by kernel_rfl) (fun _ _ _ h => h.elim) (Or.inl ⟨by rfl, ?_⟩) (by assumption) ?_
  rotate_left
  · intro wx hSw
    try dsimp only at hSw
    go_simp
    try with_reducible rfl
  try simp only [Act.put, List.getElem_toArray, List.getElem_cons_zero, List.getElem_cons_succ, List.setIfInBounds_toArray, List.set_cons_zero, List.set_cons_succ]
  refine wpAnyH_take (i := 1) (v := ?_) rfl (by kernel_rfl) (by kernel_rfl) (by kernel_rfl) (fun _ _ _ h => h.elim) (Or.inl ⟨by rfl, ?_⟩) (by assumption) ?_
  rotate_left
  · intro wx hSw
    try dsimp only at hSw
    go_simp
    try with_reducible rfl
  try simp only [Act.put, List.getElem_toArray, List.getElem_cons_zero, List.getElem_cons_succ, List.setIfInBounds_toArray, List.set_cons_zero, List.set_cons_succ]
  refine wpAnyH_take (i := 3) (v := ?_) rfl (by kernel_rfl) (by kernel_rfl) (by kernel_rfl) (fun _ _ _ h => h.elim) (Or.inl ⟨by rfl, ?_⟩) (by assumption) ?_
  rotate_left
  · intro wx hSw
    try dsimp only at hSw
    go_simp
    try with_reducible rfl
  try simp only [Act.put, List.getElem_toArray, List.getElem_cons_zero, List.getElem_cons_succ, List.setIfInBounds_toArray, List.set_cons_zero, List.set_cons_succ]
  refine wpAnyH_ready (rs := [2]) (by kernel_rfl) (by simp) ?_
  refine AllReadyH.cons rfl (fun K hK => ?_) ?_
  · go_simp
    refine (HA1.out _ (Below.refl _ _).drew).mono ?_
    rintro e z1 ⟨rfl, s3⟩
    have hX1 : Below Y.heap.size Y z1 := below_undrew s3
    clear s3
    try go_wp2_with fail
    refine hK.out _ _ ?_ (fun hHeld => ?_)
    · first | exact HS.out _ (Below.refl _ _).drew | exact HS.out _ hX1 | exact HS.out _ hX2 | exact HS.out _ hX3 | exact HS.out _ hX4 | exact HS.out _ hX5 | exact HS.out _ hX6
    clear hK K
    try simp only [Act.put, List.getElem_toArray, List.getElem_cons_zero, List.getElem_cons_succ, List.setIfInBounds_toArray, List.set_cons_zero, List.set_cons_succ]
    refine wpAnyH_take (i := 4) (v := ?_) rfl (by kernel_rfl) (by kernel_rfl) (by kernel_rfl) (fun _ _ _ h => h.elim) (Or.inl ⟨by rfl, ?_⟩) (by assumption) ?_
    rotate_left
    · intro wx hSw
      try dsimp only at hSw
      go_simp
      try with_reducible rfl
    try simp only [Act.put, List.getElem_toArray, List.getElem_cons_zero, List.getElem_cons_succ, List.setIfInBounds_toArray, List.set_cons_zero, List.set_cons_succ]
    refine wpAnyH_take (i := 5) (v := ?_) rfl (by kernel_rfl) (by kernel_rfl) (by kernel_rfl) (fun _ _ _ h => h.elim) (Or.inl ⟨by rfl, ?_⟩) (by assumption) ?_
    rotate_left
    · intro wx hSw
      try dsimp only at hSw
      go_simp
      try with_reducible rfl
    try simp only [Act.put, List.getElem_toArray, List.getElem_cons_zero, List.getElem_cons_succ, List.setIfInBounds_toArray, List.set_cons_zero, List.set_cons_succ]
    refine wpAnyH_take (i := 6) (v := ?_) rfl (by kernel_rfl) (by kernel_rfl) (by kernel_rfl) (fun _ _ _ h => h.elim) (Or.inl ⟨by rfl, ?_⟩) (by assumption) ?_
    rotate_left
    · intro wx hSw
      try dsimp only at hSw
      go_simp
      try with_reducible rfl
    try simp only [Act.put, List.getElem_toArray, List.getElem_cons_zero, List.getElem_cons_succ, List.setIfInBounds_toArray, List.set_cons_zero, List.set_cons_succ]
    refine wpAnyH_take (i := 7) (v := ?_) rfl (by kernel_rfl) (by kernel_rfl) (by kernel_rfl) (fun _ _ _ h => h.elim) (Or.inl ⟨by rfl, ?_⟩) (by assumption) ?_
    rotate_left
    · intro wx hSw
      try dsimp only at hSw
      go_simp
      try with_reducible rfl
    try simp only [Act.put, List.getElem_toArray, List.getElem_cons_zero, List.getElem_cons_succ, List.setIfInBounds_toArray, List.set_cons_zero, List.set_cons_succ]
    refine wpAnyH_take (i := 9) (v := ?_) rfl (by kernel_rfl) (by kernel_rfl) (by kernel_rfl) (fun _ _ _ h => h.elim) (Or.inl ⟨by rfl, ?_⟩) (by assumption) ?_
    rotate_left
    · intro wx hSw
      try dsimp only at hSw
      go_simp
      try with_reducible rfl
    try simp only [Act.put, List.getElem_toArray, List.getElem_cons_zero, List.getElem_cons_succ, List.setIfInBounds_toArray, List.set_cons_zero, List.set_cons_succ]
    refine wpAnyH_take (i := 10) (v := ?_) rfl (by kernel_rfl) (by kernel_rfl) (by kernel_rfl) (fun _ _ _ h => h.elim) (Or.inl ⟨by rfl, ?_⟩) (by assumption) ?_
    rotate_left
    · intro wx hSw
      try dsimp only at hSw
      go_simp
      try with_reducible rfl
    try simp only [Act.put, List.getElem_toArray, List.getElem_cons_zero, List.getElem_cons_succ, List.setIfInBounds_toArray, List.set_cons_zero, List.set_cons_succ]
    refine wpAnyH_take (i := 11) (v := ?_) rfl (by kernel_rfl) (by kernel_rfl) (by kernel_rfl) (fun _ _ _ h => h.elim) (Or.inl ⟨by rfl, ?_⟩) (by assumption) ?_
    rotate_left
    · intro wx hSw
      try dsimp only at hSw
      go_simp
      try with_reducible rfl
    try simp only [Act.put, List.getElem_toArray, List.getElem_cons_zero, List.getElem_cons_succ, List.setIfInBounds_toArray, List.set_cons_zero, List.set_cons_succ]
    refine wpAnyH_take (i := 12) (v := ?_) rfl (by kernel_rfl) (by kernel_rfl) (by kernel_rfl) (fun _ _ _ h => h.elim) (Or.inl ⟨by rfl, ?_⟩) (by assumption) ?_
    rotate_left
    · intro wx hSw
      try dsimp only at hSw
      go_simp
      try with_reducible rfl
    try simp only [Act.put, List.getElem_toArray, List.getElem_cons_zero, List.getElem_cons_succ, List.setIfInBounds_toArray, List.set_cons_zero, List.set_cons_succ]
    refine wpAnyH_take (i := 13) (v := ?_) rfl (by kernel_rfl) (by kernel_rfl) (by kernel_rfl) (fun _ _ _ h => h.elim) (Or.inl ⟨by rfl, ?_⟩) (by assumption) ?_
    rotate_left
    · intro wx hSw
      try dsimp only at hSw
      go_simp
      try with_reducible rfl
    try simp only [Act.put, List.getElem_toArray, List.getElem_cons_zero, List.getElem_cons_succ, List.setIfInBounds_toArray, List.set_cons_zero, List.set_cons_succ]
    refine wpAnyH_take (i := 14) (v := ?_) rfl (by kernel_rfl) (by kernel_rfl) (by kernel_rfl) (fun _ _ _ h => h.elim) (Or.inl ⟨by rfl, ?_⟩) (by assumption) ?_
    rotate_left
    · intro wx hSw
      try dsimp only at hSw
      go_simp
      try with_reducible rfl
    try simp only [Act.put, List.getElem_toArray, List.getElem_cons_zero, List.getElem_cons_succ, List.setIfInBounds_toArray, List.set_cons_zero, List.set_cons_succ]
    refine wpAnyH_ready (rs := [8]) (by kernel_rfl) (by simp) ?_
    refine AllReadyH.cons rfl (fun K hK => ?_) ?_
    · go_simp
      refine (HEp.out _ hX1).mono ?_
      rintro e z2 ⟨rfl, hz⟩
      have hX2 : Below Y.heap.size Y z2 := hz ▸ hX1
      clear hz
      try go_wp2_with fail
      refine hK.out _ _ ?_ (fun hHeld => ?_)
      · first | exact HS.out _ (Below.refl _ _).drew | exact HS.out _ hX1 | exact HS.out _ hX2 | exact HS.out _ hX3 | exact HS.out _ hX4 | exact HS.out _ hX5 | exact HS.out _ hX6
      clear hK K
      try simp only [Act.put, List.getElem_toArray, List.getElem_cons_zero, List.getElem_cons_succ, List.setIfInBounds_toArray, List.set_cons_zero, List.set_cons_succ]
      refine wpAnyH_take (i := 15) (v := ?_) rfl (by kernel_rfl) (by kernel_rfl) (by kernel_rfl) (fun _ _ _ h => h.elim) (Or.inl ⟨by rfl, ?_⟩) (by assumption) ?_
      rotate_left
      · intro wx hSw
        try dsimp only at hSw
        go_simp
        try with_reducible rfl
      try simp only [Act.put, List.getElem_toArray, List.getElem_cons_zero, List.getElem_cons_succ, List.setIfInBounds_toArray, List.set_cons_zero, List.set_cons_succ]
      refine wpAnyH_take (i := 16) (v := ?_) rfl (by kernel_rfl) (by kernel_rfl) (by kernel_rfl) (fun _ _ _ h => h.elim) (Or.inl ⟨by rfl, ?_⟩) (by assumption) ?_
      rotate_left
      · intro wx hSw
        try dsimp only at hSw
        go_simp
        try with_reducible rfl
      try simp only [Act.put, List.getElem_toArray, List.getElem_cons_zero, List.getElem_cons_succ, List.setIfInBounds_toArray, List.set_cons_zero, List.set_cons_succ]
      refine wpAnyH_take (i := 17) (v := ?_) rfl (by kernel_rfl) (by kernel_rfl) (by kernel_rfl) (fun _ _ _ h => h.elim) (Or.inl ⟨by rfl, ?_⟩) (by assumption) ?_
      rotate_left
      · intro wx hSw
        try dsimp only at hSw
        go_simp
        try with_reducible rfl
      try simp only [Act.put, List.getElem_toArray, List.getElem_cons_zero, List.getElem_cons_succ, List.setIfInBounds_toArray, List.set_cons_zero, List.set_cons_succ]
      refine wpAnyH_take (i := 18) (v := ?_) rfl (by kernel_rfl) (by kernel_rfl) (by kernel_rfl) (fun _ _ _ h => h.elim) (Or.inl ⟨by rfl, ?_⟩) (by assumption) ?_
      rotate_left
      · intro wx hSw
        try dsimp only at hSw
        go_simp
        try with_reducible rfl
      try simp only [Act.put, List.getElem_toArray, List.getElem_cons_zero, List.getElem_cons_succ, List.setIfInBounds_toArray, List.set_cons_zero, List.set_cons_succ]
      refine wpAnyH_take (i := 19) (v := ?_) rfl (by kernel_rfl) (by kernel_rfl) (by kernel_rfl) (fun _ _ _ h => h.elim) (Or.inl ⟨by rfl, ?_⟩) (by assumption) ?_
      rotate_left
      · intro wx hSw
        try dsimp only at hSw
        go_simp
        try with_reducible rfl
      try simp only [Act.put, List.getElem_toArray, List.getElem_cons_zero, List.getElem_cons_succ, List.setIfInBounds_toArray, List.set_cons_zero, List.set_cons_succ]
      refine wpAnyH_take (i := 21) (v := ?_) rfl (by kernel_rfl) (by kernel_rfl) (by kernel_rfl) (fun _ _ _ h => h.elim) (Or.inl ⟨by rfl, ?_⟩) (by assumption) ?_
      rotate_left
      · intro wx hSw
        try dsimp only at hSw
        go_simp
        try with_reducible rfl
      try simp only [Act.put, List.getElem_toArray, List.getElem_cons_zero, List.getElem_cons_succ, List.setIfInBounds_toArray, List.set_cons_zero, List.set_cons_succ]
      refine wpAnyH_take (i := 22) (v := ?_) rfl (by kernel_rfl) (by kernel_rfl) (by kernel_rfl) (fun _ _ _ h => h.elim) (Or.inl ⟨by rfl, ?_⟩) (by assumption) ?_
      rotate_left
      · intro wx hSw
        try dsimp only at hSw
        go_simp
        try with_reducible rfl
      try simp only [Act.put, List.getElem_toArray, List.getElem_cons_zero, List.getElem_cons_succ, List.setIfInBounds_toArray, List.set_cons_zero, List.set_cons_succ]
      refine wpAnyH_ready (rs := [20]) (by kernel_rfl) (by simp) ?_
      refine AllReadyH.cons rfl (fun K hK => ?_) ?_
      · go_simp
        refine (HMp.out _ hX2).mono ?_
        rintro e z3 ⟨f1, k1, f2, k2, rfl, s1, s2, s3, -, -⟩
        have hX3 : Below Y.heap.size Y z3 := bt hX2 s3
        have HQ1 := hide s1
        have HQ2 := hide s2
        clear s1 s2 s3
        try go_wp2_with fail
        refine hK.out _ _ ?_ (fun hHeld => ?_)
        · first | exact HS.out _ (Below.refl _ _).drew | exact HS.out _ hX1 | exact HS.out _ hX2 | exact HS.out _ hX3 | exact HS.out _ hX4 | exact HS.out _ hX5 | exact HS.out _ hX6
        clear hK K
        try simp only [Act.put, List.getElem_toArray, List.getElem_cons_zero, List.getElem_cons_succ, List.setIfInBounds_toArray, List.set_cons_zero, List.set_cons_succ]
        refine wpAnyH_ready (rs := [23]) (by kernel_rfl) (by simp) ?_
        refine AllReadyH.cons rfl (fun K hK => ?_) ?_
        · go_simp
          refine (HRm.out _ hX3).mono ?_
          rintro e z4 ⟨ta, ba, rfl, s1, s2, s3⟩
          have hX4 : Below Y.heap.size Y z4 := bt hX3 s3
          have HQ3 := hide s1
          have HQ4 := hide s2
          have HQ5 := hide (HQ1.out.kept (Turns.of_below (S := NoB) s3) (fun _ _ => id))
          have HQ6 := hide (HQ2.out.kept (Turns.of_below (S := NoB) s3) (fun _ _ => id))
          obtain ⟨g1, i1, rfl, -⟩ := HQ3.out.r
          obtain ⟨g2, i2, rfl, -⟩ := HQ4.out.r
          clear s1 s2 s3 HQ1 HQ2
          try go_wp2_with fail
          refine hK.out _ _ ?_ (fun hHeld => ?_)
          · first | exact HS.out _ (Below.refl _ _).drew | exact HS.out _ hX1 | exact HS.out _ hX2 | exact HS.out _ hX3 | exact HS.out _ hX4 | exact HS.out _ hX5 | exact HS.out _ hX6
          clear hK K
          try simp only [Act.put, List.getElem_toArray, List.getElem_cons_zero, List.getElem_cons_succ, List.setIfInBounds_toArray, List.set_cons_zero, List.set_cons_succ]
          refine wpAnyH_ready (rs := [24]) (by kernel_rfl) (by simp) ?_
          refine AllReadyH.cons rfl (fun K hK => ?_) ?_
          · go_simp
            refine (HSm.out _ _ _ _ _ HQ5.out HQ6.out HQ3.out HQ4.out).mono ?_
            rintro e z5 ⟨rfl, s3⟩
            have hX5 : Below Y.heap.size Y z5 := bt hX4 s3
            clear s3
            try go_wp2_with fail
            refine hK.out _ _ ?_ (fun hHeld => ?_)
            · first | exact HS.out _ (Below.refl _ _).drew | exact HS.out _ hX1 | exact HS.out _ hX2 | exact HS.out _ hX3 | exact HS.out _ hX4 | exact HS.out _ hX5 | exact HS.out _ hX6
            clear hK K
            try simp only [Act.put, List.getElem_toArray, List.getElem_cons_zero, List.getElem_cons_succ, List.setIfInBounds_toArray, List.set_cons_zero, List.set_cons_succ]
            refine wpAnyH_take (i := 25) (v := ?_) rfl (by kernel_rfl) (by kernel_rfl) (by kernel_rfl) (fun _ _ _ h => h.elim) (Or.inl ⟨by rfl, ?_⟩) (by assumption) ?_
            rotate_left
            · intro wx hSw
              try dsimp only at hSw
              go_simp
              try with_reducible rfl
            try simp only [Act.put, List.getElem_toArray, List.getElem_cons_zero, List.getElem_cons_succ, List.setIfInBounds_toArray, List.set_cons_zero, List.set_cons_succ]
            refine wpAnyH_take (i := 26) (v := ?_) rfl (by kernel_rfl) (by kernel_rfl) (by kernel_rfl) (fun _ _ _ h => h.elim) (Or.inl ⟨by rfl, ?_⟩) (by assumption) ?_
            rotate_left
            · intro wx hSw
              try dsimp only at hSw
              go_simp
              try with_reducible rfl
            try simp only [Act.put, List.getElem_toArray, List.getElem_cons_zero, List.getElem_cons_succ, List.setIfInBounds_toArray, List.set_cons_zero, List.set_cons_succ]
            refine wpAnyH_take (i := 27) (v := ?_) rfl (by kernel_rfl) (by kernel_rfl) (by kernel_rfl) (fun _ _ _ h => h.elim) (Or.inl ⟨by rfl, ?_⟩) (by assumption) ?_
            rotate_left
            · intro wx hSw
              try dsimp only at hSw
              go_simp
              try with_reducible rfl
            try simp only [Act.put, List.getElem_toArray, List.getElem_cons_zero, List.getElem_cons_succ, List.setIfInBounds_toArray, List.set_cons_zero, List.set_cons_succ]
            refine wpAnyH_take (i := 28) (v := ?_) rfl (by kernel_rfl) (by kernel_rfl) (by kernel_rfl) (fun _ _ _ h => h.elim) (Or.inl ⟨by rfl, ?_⟩) (by assumption) ?_
            rotate_left
            · intro wx hSw
              try dsimp only at hSw
              go_simp
              try with_reducible rfl
            try simp only [Act.put, List.getElem_toArray, List.getElem_cons_zero, List.getElem_cons_succ, List.setIfInBounds_toArray, List.set_cons_zero, List.set_cons_succ]
            refine wpAnyH_take (i := 29) (v := ?_) rfl (by kernel_rfl) (by kernel_rfl) (by kernel_rfl) (fun _ _ _ h => h.elim) (Or.inl ⟨by rfl, ?_⟩) (by assumption) ?_
            rotate_left
            · intro wx hSw
              try dsimp only at hSw
              go_simp
              try with_reducible rfl
            try simp only [Act.put, List.getElem_toArray, List.getElem_cons_zero, List.getElem_cons_succ, List.setIfInBounds_toArray, List.set_cons_zero, List.set_cons_succ]
            refine wpAnyH_ready (rs := [30]) (by kernel_rfl) (by simp) ?_
            refine AllReadyH.cons rfl (fun K hK => ?_) ?_
            · go_simp
              refine (HBl.out _).mono ?_
              rintro e z6 ⟨rfl, hz⟩
              have hX6 : Below Y.heap.size Y z6 := by rw [hz]; exact bt hX5 (box1 _ _)
              clear hz
              try go_wp2_with fail
              refine hK.out _ _ ?_ (fun hHeld => ?_)
              · first | exact HS.out _ (Below.refl _ _).drew | exact HS.out _ hX1 | exact HS.out _ hX2 | exact HS.out _ hX3 | exact HS.out _ hX4 | exact HS.out _ hX5 | exact HS.out _ hX6
              clear hK K
              try simp only [Act.put, List.getElem_toArray, List.getElem_cons_zero, List.getElem_cons_succ, List.setIfInBounds_toArray, List.set_cons_zero, List.set_cons_succ]
              refine wpAnyH_take (i := 31) (v := ?_) rfl (by kernel_rfl) (by kernel_rfl) (by kernel_rfl) (fun _ _ _ h => h.elim) (Or.inl ⟨by rfl, ?_⟩) (by assumption) ?_
              rotate_left
              · intro wx hSw
                try dsimp only at hSw
                go_simp
                try with_reducible rfl
              try simp only [Act.put, List.getElem_toArray, List.getElem_cons_zero, List.getElem_cons_succ, List.setIfInBounds_toArray, List.set_cons_zero, List.set_cons_succ]
              refine wpAnyH_take (i := 32) (v := ?_) rfl (by kernel_rfl) (by kernel_rfl) (by kernel_rfl) (fun _ _ _ h => h.elim) (Or.inl ⟨by rfl, ?_⟩) (by assumption) ?_
              rotate_left
              · intro wx hSw
                try dsimp only at hSw
                go_simp
                try with_reducible rfl
              try simp only [Act.put, List.getElem_toArray, List.getElem_cons_zero, List.getElem_cons_succ, List.setIfInBounds_toArray, List.set_cons_zero, List.set_cons_succ]
              refine wpAnyH_done (by kernel_rfl) ?_ _
              exact ⟨hX6, _, _, _, _, _, _, _, _, _, _, _, _, _, _, _, _, _, _, _, _, _, _, _, _, _, _, _, _, _, _, _, _, rfl⟩
            exact AllReadyH.nil
          exact AllReadyH.nil
        exact AllReadyH.nil
      exact AllReadyH.nil
    exact AllReadyH.nil
  exact AllReadyH.nil
end Go.Proofs.Ytobjadfchpgjeaa
set_option linter.unusedSimpArgs false
namespace Go.Proofs.Ytobjadfchpgjeaa
open Go.RowKit
set_option linter.unusedVariables false
set_option maxRecDepth 100000 in
set_option maxHeartbeats 4000000 in
theorem edits_bad (W H : Int) (tv bv lv : Value) (tl : List Nat) (L : List Bd) (K : List (Bool × Bd)) (w : World) (hv : TlR w tv tl) (hb : ∀ x ∈ tl, x < 256) (hl : BdR w bv L) (ht : tl.length ≤ 140737488355328) (hL : L.length * 40 ≤ 140737488355328) (hK : EdR w lv K) (hc : chkC W H tl L = 1) :
    Calls Try.prog 3 #[mp W H tv bv, lv] w fun e w' => e = .returned (.bool true) ∧ Below w.heap.size w w' := by
  have B0 := box1 w (.cells #[.int .i64 W, .int .i64 H, tv, bv] 25)
  have M0 : MB (w.alloc (.cells #[.int .i64 W, .int .i64 H, tv, bv] 25)) w.heap.size W H tv bv := heap_alloc_new w _
  obtain ⟨X, hX⟩ : ∃ X, w.alloc (.cells #[.int .i64 W, .int .i64 H, tv, bv] 25) = X := ⟨_, rfl⟩
  rw [hX] at B0 M0
  have HM := hide (made_bad W H tv bv lv tl L K X (hv.kept B0) hb (hl.kept B0) ht hL (hK.kept B0) hc)
  have HA : Hid (∀ wx, Calls Try.prog 10 #[] wx fun e w' => e = .returned (.bool true) ∧ Below wx.heap.size wx w') := hide awake_any
  obtain ⟨a1, cap1, rfl, -⟩ := hv
  obtain ⟨a2, cap2, rfl, -⟩ := hl
  obtain ⟨a3, cap3, rfl, -⟩ := hK
  clear hc hb
  obtain ⟨m0, m1, m2, m3⟩ := M0.c
  go_enter Try.func3, Try.ntmps3
  go_wp2_with fail
  refine HM.out.mono ?_
  rintro e w1 ⟨rfl, hb1⟩
  have HB1 := hide (bt B0 hb1)
  clear hX m0 m1 m2 m3 M0 hb1 HM B0
  go_wp2_with fail
  refine (HA.out _).mono ?_
  rintro e w2 ⟨rfl, hb2⟩
  have hE : Below w.heap.size w w2 := bt (bt HB1.out (box1 _ _)) hb2
  clear HA hb2
  go_wp2_with fail
  go_ret
  exact ⟨rfl, hE⟩
set_option maxRecDepth 100000 in
set_option maxHeartbeats 8000000 in
theorem edits_good (W H : Int) (tv bv lv : Value) (tl : List Nat) (L : List Bd) (K : List (Bool × Bd)) (w : World) (hv : TlR w tv tl) (hb : ∀ x ∈ tl, x < 256) (hl : BdR w bv L) (ht : tl.length ≤ 140737488355328) (hL : L.length * 40 ≤ 140737488355328) (hK : EdR w lv K) (hc : chkC W H tl L = 0) :
    Calls Try.prog 3 #[mp W H tv bv, lv] w fun e w' => e = .returned (.bool true) ∧ Below w.heap.size w w' := by
  have B0 := box1 w (.cells #[.int .i64 W, .int .i64 H, tv, bv] 25)
  have M0 : MB (w.alloc (.cells #[.int .i64 W, .int .i64 H, tv, bv] 25)) w.heap.size W H tv bv := heap_alloc_new w _
  obtain ⟨X, hX⟩ : ∃ X, w.alloc (.cells #[.int .i64 W, .int .i64 H, tv, bv] 25) = X := ⟨_, rfl⟩
  rw [hX] at B0 M0
  have HM := hide (made_good W H tv bv lv tl L K X (hv.kept B0) hb (hl.kept B0) ht hL (hK.kept B0) hc)
  have HA : Hid (∀ wx, Calls Try.prog 10 #[] wx fun e w' => e = .returned (.bool true) ∧ Below wx.heap.size wx w') := hide awake_any
  have hmt : mt W H tl = true := (chkC_zero hc).1
  obtain ⟨a1, cap1, rfl, -⟩ := hv
  obtain ⟨a2, cap2, rfl, -⟩ := hl
  obtain ⟨a3, cap3, rfl, -⟩ := hK
  clear hc hb
  obtain ⟨m0, m1, m2, m3⟩ := M0.c
  go_enter Try.func3, Try.ntmps3
  go_wp2_with fail
  refine HM.out.mono ?_
  rintro e w1 ⟨p, r, rfl, k, ⟨hBB, ⟨l, es, bm, n, tv', bv', ev, rt, rb, re, hAt, hF, hes, hn⟩, hb1, hz⟩, hk⟩
  have HB1 := hide (bt B0 hb1)
  have HAt := hide hAt
  have HF := hide hF
  clear hX m0 m1 m2 m3 M0 hb1 HM B0 hBB hAt hF
  go_wp2_with fail
  have hB2 : Below w1.heap.size w1 (w1.alloc (.cells #[ptr p, ptr r] 30)) := box1 _ _
  refine (is_any (HAt.out.below hB2) HF.out hmt (by omega)).mono ?_
  rintro e w2 ⟨rfl, hb2⟩
  have HB2 := hide (bt HB1.out (bt hB2 hb2))
  clear hb2 hB2
  go_wp2_with fail
  refine (HA.out _).mono ?_
  rintro e w3 ⟨rfl, hb3⟩
  have hE := bt HB2.out hb3
  clear HA hb3
  go_wp2_with fail
  go_ret
  exact ⟨rfl, hE⟩
end Go.Proofs.Ytobjadfchpgjeaa
