/-
  Draining: what Drain's function hands out, and a range over it.
-/
import Derived.Test.YtdhiomahcilffaaNob
namespace Go.Proofs.Ytdhiomahcilffaa
open Go.RowKit Go.Shelf
set_option linter.unusedVariables false
set_option linter.unusedSimpArgs false
attribute [local go_sem] Oper.semAt_some
/-- From S the items xs were taken, each the first of what was there; R is left. -/
def Drn (S xs R : List It) : Prop := ∀ M : List It → List It → Prop, M [] S → (∀ xs R R' t, M xs R → R.Perm (t :: R') → (∀ u ∈ R, lt u t = false) → M (xs ++ [t]) R') → M xs R
theorem Drn.start {S : List It} : Drn S [] S := fun _ h _ => h
theorem Drn.next {S xs R R' : List It} {t : It} (h : Drn S xs R) (h1 : R.Perm (t :: R')) (h2 : ∀ u ∈ R, lt u t = false) : Drn S (xs ++ [t]) R' := fun M m1 m2 => m2 _ _ _ _ (h M m1 m2) h1 h2
theorem Drn.ind {S : List It} {motive : (xs R : List It) → Drn S xs R → Prop} (start : motive [] S Drn.start) (next : ∀ {xs R R' : List It} {t : It} (h : Drn S xs R) (h1 : R.Perm (t :: R')) (h2 : ∀ u ∈ R, lt u t = false), motive xs R h → motive (xs ++ [t]) R' (Drn.next h h1 h2)) {xs R : List It} (h : Drn S xs R) : motive xs R h := by
  obtain ⟨h', hm⟩ : ∃ h' : Drn S xs R, motive xs R h' := h (fun xs R => ∃ h' : Drn S xs R, motive xs R h') ⟨_, start⟩ (fun xs R R' t ⟨h', hm⟩ h1 h2 => ⟨_, next h' h1 h2 hm⟩)
  exact hm
theorem Drn.cs {S : List It} {motive : (xs R : List It) → Drn S xs R → Prop} (start : motive [] S Drn.start) (next : ∀ {xs R R' : List It} {t : It} (h : Drn S xs R) (h1 : R.Perm (t :: R')) (h2 : ∀ u ∈ R, lt u t = false), motive (xs ++ [t]) R' (Drn.next h h1 h2)) {xs R : List It} (h : Drn S xs R) : motive xs R h := Drn.ind start (fun h h1 h2 _ => next h h1 h2) h
/-- What is to come next. -/
def Nxt (S xs : List It) (t : It) : Prop := ∃ R, Drn S (xs ++ [t]) R
/-- A heap's blocks. -/
def Hb (b : Nat) (v : Value) (k : Nat) : Prop := k = b ∨ v.ownBlock = some k
theorem Hs.same {X Y : World} {b : Nat} {v : Value} {n : Int} {S : List It} (h : Hs X b v n S) (hk : ∀ k, Hb b v k → Y.heap[k]? = X.heap[k]?) : Hs Y b v n S := by
  obtain ⟨l, h1, h2, h3, h4⟩ := h
  refine ⟨l, (hk b (.inl rfl)).trans h1, ⟨h2.1, ?_⟩, h3, h4⟩
  rcases h2.2 with h5 | ⟨g, cap, cur, e, hb, hg, r⟩
  · exact .inl h5
  · exact .inr ⟨g, cap, cur, e, hb, (hk g (.inr (by rw [e]; rfl))).trans hg, r⟩
/-- How many a heap holds, read off the world. -/
def lenOf : Option Value → Nat
  | some (.slice _ n _) => n
  | _ => 0
def lenAt (b : Nat) (w : World) : Nat := lenOf (w.cell? ⟨b, 1, none⟩)
theorem Hs.lenAt {w : World} {b : Nat} {v : Value} {n : Int} {S : List It} (h : Hs w b v n S) : lenAt b w = S.length := by
  obtain ⟨a, cap, rfl, hm, hp⟩ := h.len
  have h1 : w.cell? ⟨b, 1, none⟩ = some (.slice a S.length cap) := hp.c 1
  simp [Ytdhiomahcilffaa.lenAt, h1, lenOf]
/-- J stays where no more than M turns. -/
def Stab {α : Type} (M : Nat → Prop) (J : α → World → Prop) : Prop := ∀ s X Y, J s X → Turns M X Y → J s Y
set_option maxRecDepth 100000 in
set_option maxHeartbeats 2000000 in
theorem drain_seq (n c b l : Nat) (v : Value) (cnt : Int) (S : List It) (J Jx : List It → World → Prop) (W : World) (hc : Boxed W c 23 (ptr b)) (hs : Hs W b v cnt S) (hlen : S.length ≤ 1152921504606846976)
    (hJ : Stab (Hb b v) J) (hcb : ¬ Hb b v c)
    (hY : ∀ pre x X, J pre X → Nxt S pre x → YieldAt Fence.wide (n - 1) Try.prog l #[itv x.k x.n] X fun e Y => ((∀ k, (Hb b v k ∨ k = c) → k < X.heap.size → Y.heap[k]? = X.heap[k]?) ∧ X.heap.size ≤ Y.heap.size) ∧ ((e = .returned (.bool true) ∧ J (pre ++ [x]) Y) ∨ (e = .returned (.bool false) ∧ Jx (pre ++ [x]) Y)))
    (h0 : J [] W) :
    CallsIn Fence.wide n Try.prog 25 #[.func (.yield l) #[] #[], ptr c] W fun e Y => (∃ z, e = .returned z) ∧ ∃ xs R v', Drn S xs R ∧ Hs Y b v' cnt R ∧ (∀ k, v'.ownBlock = some k → v.ownBlock = some k) ∧ ((R = [] ∧ J xs Y) ∨ Jx xs Y) := by
  have HJ := hide hJ
  have HY := hide hY
  have HS := hide hs
  have HCB := hide hcb
  have HC := hide hc
  clear hJ hY hs hcb hc
  refine callsIn_of_wp Try.func25 rfl trivial ?_ rfl
  simp only [Try.ntmps25, List.size_toArray, List.length_cons, List.length_nil, Nat.reduceAdd, Nat.reduceSub, Array.replicate_succ, Array.replicate_zero, List.push_toArray, List.append_toArray, List.nil_append, List.cons_append]
  gi_wp2_with fail
  gi_loopw [] (fun wr => ∃ xs R v', Drn S xs R ∧ R.length ≤ 1152921504606846976 ∧ Hs wr b v' cnt R ∧ (∀ k, v'.ownBlock = some k → v.ownBlock = some k) ∧ J xs wr ∧ Boxed wr c 23 (ptr b)) (fun wr => lenAt b wr)
  case atStart => exact ⟨[], S, v, .start, hlen, HS.out, fun _ e => e, h0, HC.out⟩
  case round =>
    obtain ⟨xs, R, v', hd, hR, hh, ho, hj, hcc⟩ := hrel
    rename World => wo
    have cc := hcc.cell
    have HH := hide hh
    have HD := hide hd
    have HO := hide ho
    have HJj := hide hj
    have HCC := hide hcc
    have HRl := hide hR
    clear hh hd ho hj hcc hR
    have hsub : Hid (∀ k, Hb b v' k → Hb b v k) := hide fun k e => e.imp id (HO.out k)
    rcases Nat.eq_zero_or_pos R.length with hl0 | hl0
    · have hle : R = [] := List.eq_nil_of_length_eq_zero hl0
      subst hle
      obtain ⟨a, cap, hve, hm, hp⟩ := HH.out.len
      gi_wp2_with fail
      refine ⟨trivial, fun h => (by cases h), ?_⟩
      refine (callsIn_wide.2 (pop_no b a cap cnt false wo hp)).mono ?_
      rintro e w1 ⟨rfl, hb1⟩
      have HB1 := hide (bt hb1 (box1 w1 (.cells #[.int .i64 0, .int .i64 0] 26)))
      clear hb1
      gi_wp2_with fail
      refine ⟨fun f h => (by cases h), ?_⟩
      gi_wp2_with fail
      refine bodyPost_ret (results_none rfl _ _ _) rfl ?_
      exact ⟨⟨_, rfl⟩, xs, [], v', HD.out, HH.out.upto HB1.out, HO.out, .inl ⟨rfl, HJ.out _ _ _ HJj.out (Turns.of_below HB1.out)⟩⟩
    · gi_wp2_with fail
      refine ⟨trivial, fun h => (by cases h), ?_⟩
      refine (callsIn_wide.2 (pop_yes b v' cnt R wo HH.out hl0 HRl.out)).mono ?_
      rintro e w1 ⟨t, rfl, v1, R1, p1, p2, p3, p4, p5⟩
      have hl1 : R1.length + 1 = R.length := by have := p1.length_eq; simp at this; omega
      have hT : Turns (Hb b v) wo (w1.alloc (.cells #[.int .i64 t.k, .int .i64 t.n] 26)) := (p4.mono (fun k _ e => hsub.out k e)).trans (Turns.of_below (box1 _ _))
      have hj2 := HJ.out _ _ _ HJj.out hT
      have hd2 : Drn S (xs ++ [t]) R1 := .next HD.out p1 p2
      have h2 : Hs (w1.alloc (.cells #[.int .i64 t.k, .int .i64 t.n] 26)) b v1 cnt R1 := p3.upto (box1 _ _)
      have hc2 : Boxed (w1.alloc (.cells #[.int .i64 t.k, .int .i64 t.n] 26)) c 23 (ptr b) := (hT.block c (Array.getElem?_eq_some_iff.1 HCC.out).1 HCB.out).trans HCC.out
      have hx := B2.new w1 t.k t.n
      obtain ⟨W2, hW2⟩ : ∃ W2, w1.alloc (.cells #[.int .i64 t.k, .int .i64 t.n] 26) = W2 := ⟨_, rfl⟩
      rw [hW2] at hj2 h2 hc2 hx
      have HW2 := hide hW2
      have hsub1 : ∀ k, Hb b v1 k → Hb b v k := fun k e => e.imp id (fun q => HO.out k (p5 k q))
      have HS1 := hide hsub1
      have H2 := hide h2
      have HD2 := hide hd2
      have HC2 := hide hc2
      have HL1 := hide hl1
      have HP5 : Hid (∀ k, v1.ownBlock = some k → v.ownBlock = some k) := hide fun k e => HO.out k (p5 k e)
      obtain ⟨fn, tmps, assign, body, hy, hRd⟩ := HY.out xs t W2 hj2 ⟨R1, hd2⟩
      obtain ⟨x0, x1⟩ := hx.c
      clear hT p1 p2 p3 p4 p5 hW2 hd2 h2 hc2 hsub1 hx hj2 hl1
      gi_wp2_with (rw [HW2.out])
      refine ⟨fun h => (by cases h), ?_⟩
      refine hRd.mono ?_
      rintro e W3 ⟨⟨hk3, hz3⟩, (⟨rfl, hJ3⟩ | ⟨rfl, hJx3⟩)⟩
      · have h3 : Hs W3 b v1 cnt R1 := H2.out.same (fun k e => hk3 k (.inl (HS1.out k e)) (by obtain ⟨o1, o2, o3⟩ := H2.out.own; rcases e with e | e; omega; exact o2 k e))
        have hc3 : Boxed W3 c 23 (ptr b) := (hk3 c (.inr rfl) HC2.out.lt).trans HC2.out
        have H3 := hide h3
        have HC3 := hide hc3
        clear h3 hc3 hk3
        gi_wp2_with fail
        go_roundw
        case rel => exact ⟨xs ++ [t], R1, v1, HD2.out, by have := HL1.out; have := HRl.out; omega, H3.out, HP5.out, hJ3, HC3.out⟩
        case measure => rw [H3.out.lenAt, HH.out.lenAt]; have := HL1.out; omega
      · have h3 : Hs W3 b v1 cnt R1 := H2.out.same (fun k e => hk3 k (.inl (HS1.out k e)) (by obtain ⟨o1, o2, o3⟩ := H2.out.own; rcases e with e | e; omega; exact o2 k e))
        have H3 := hide h3
        clear h3 hk3
        gi_wp2_with fail
        refine bodyPost_ret (results_none rfl _ _ _) rfl ?_
        exact ⟨⟨_, rfl⟩, _, R1, v1, HD2.out, H3.out, HP5.out, .inr hJx3⟩
/-- What a round must keep: what lay from block B on, the heap and the box of the iterator. -/
def Kq (B : Nat) (M : Nat → Prop) (X Y : World) : Prop := X.heap.size ≤ Y.heap.size ∧ ∀ k, (B ≤ k ∨ M k) → k < X.heap.size → Y.heap[k]? = X.heap[k]?
theorem Kq.refl (B : Nat) (M : Nat → Prop) (X : World) : Kq B M X X := ⟨Nat.le_refl _, fun _ _ _ => rfl⟩
theorem Kq.trans {B : Nat} {M : Nat → Prop} {X Y Z : World} (h : Kq B M X Y) (k : Kq B M Y Z) : Kq B M X Z := ⟨Nat.le_trans h.1 k.1, fun i hi hl => (k.2 i hi (Nat.lt_of_lt_of_le hl h.1)).trans (h.2 i hi hl)⟩
theorem Kq.of_turns {B : Nat} {M T : Nat → Prop} {X Y : World} (h : Turns T X Y) (hT : ∀ k, k < X.heap.size → (B ≤ k ∨ M k) → ¬ T k) : Kq B M X Y := ⟨h.size, fun k hk hl => h.block k hl (hT k hl hk)⟩
theorem Kq.of_below {B : Nat} {M : Nat → Prop} {X Y : World} (h : Below X.heap.size X Y) : Kq B M X Y := ⟨h.size, fun k _ hl => h.block k hl⟩
def drPost (B : Nat) (M : Nat → Prop) (I : List It → World → Prop) (Ix : Code → List It → World → Prop) (xs : List It) (X : World) : Exit → Act → World → Prop
  | .normal, _, Y => Kq B M X Y ∧ I xs Y
  | .ret, _, Y => Kq B M X Y ∧ Ix .ret xs Y
  | .exit id, _, Y => Kq B M X Y ∧ Ix (.exit id) xs Y
  | _, _, _ => False
theorem turns_put (X : World) {l : Nat} (o : Obj) (S : Nat → Prop) (hl : S l) : Turns S X (X.putObj l o) := by
  have h := grownBy_putObj' X l o
  exact ⟨h.os, h.tape, h.output, h.size, fun k hk hn => h.block k hk (fun e => hn (by cases e; exact hl))⟩
theorem range_drain {n : Nat} {g : Operand} {ps : Array Tmp} {assign body : Code} {Q : Exit → Act → World → Prop} {a : Act} {w : World} (h1 : 1 ≤ n) {c b : Nat} {v : Value} {cnt : Int} {S : List It}
    (hg : a.eval g = .func (.func 25) #[] #[ptr c]) (hc : Boxed w c 23 (ptr b)) (hs : Hs w b v cnt S) (hlen : S.length ≤ 1152921504606846976) (hcb : ¬ Hb b v c) (hps : ps.size = 1)
    (I : List It → World → Prop) (Ix : Code → List It → World → Prop) (hI : Stab (fun k => Hb b v k ∨ w.heap.size ≤ k) I) (hIx : ∀ c, Stab (fun k => Hb b v k ∨ w.heap.size ≤ k) (Ix c)) (h0 : I [] w)
    (Ax : It → Act → World → Prop) (hAx : ∀ x a', Stab (fun k => k < w.heap.size + 2 ∧ w.heap.size ≤ k) (fun (_ : Unit) W => Ax x a' W))
    (hassign : ∀ (l : Nat) (pre : List It) (x : It) (W : World) (K : Act → World → Prop), I pre W → w.heap.size + 2 ≤ W.heap.size → (∀ a' W', Kq w.heap.size (fun k => Hb b v k ∨ k = c) W W' → I pre W' → Ax x a' W' → K a' W') →
      assign.wpIn (Fence.wide.inRound l) (n - 1 - 1) Try.prog (Exit.then K (fun _ _ _ => False)) { tmps := (ps.zip #[itv x.k x.n]).foldl (fun t (p, v) => t.setIfInBounds p v) a.tmps, defers := [] } W)
    (hbody : ∀ (l : Nat) (pre : List It) (x : It) (a' : Act) (W : World), w.heap.size ≤ l → I pre W → Ax x a' W → Nxt S pre x → w.heap.size + 2 ≤ W.heap.size → body.wpIn (Fence.wide.inRound l) (n - 1 - 1) Try.prog (drPost w.heap.size (fun k => Hb b v k ∨ k = c) I Ix (pre ++ [x]) W) a' W)
    (hdone : ∀ (D : Nat) (xs : List It) (v' : Value) (W : World), w.heap.size ≤ D → Drn S xs [] → I xs W → Hs W b v' cnt [] → (∀ k, v'.ownBlock = some k → v.ownBlock = some k) → W.heap[D]? = some (.deferred (some [])) → Q .normal { a with defers := { target := .collected D, args := #[] } :: a.defers } W)
    (hstop : ∀ (D : Nat) (cd : Code) (xs R : List It) (v' : Value) (W : World), w.heap.size ≤ D → Drn S xs R → Ix cd xs W → Hs W b v' cnt R → (∀ k, v'.ownBlock = some k → v.ownBlock = some k) → W.heap[D]? = some (.deferred (some [])) → cd.wpIn Fence.wide n Try.prog Q { a with defers := { target := .collected D, args := #[] } :: a.defers } W) :
    (Code.rangeFunc g ps assign body).wpIn Fence.wide n Try.prog Q a w := by
  obtain ⟨ob, ov, onb⟩ := hs.own
  have hM : ∀ k, Hb b v k → k < w.heap.size := fun k e => by rcases e with e | e; omega; exact ov k e
  have hcl := hc.lt
  refine wpIn_rangeFunc (fun fn hfn => ?_)
  generalize hrc : (fun st pe => ({ state := st, pending := pe, fn := fn, tmps := a.tmps, params := ps, assign := assign, body := body, defers := w.heap.size } : Loop)) = rc
  generalize hV : (w.alloc (.deferred (some []))).alloc (.loop (rc .ready none)) = V
  have zV : V.heap.size = w.heap.size + 2 := by rw [← hV]; simp
  have bV : Below w.heap.size w V := by rw [← hV]; exact box2 _ _ _
  have lV : V.heap[w.heap.size + 1]? = some (.loop (rc .ready none)) := by rw [← hV]; have := World.alloc_heap_new (w.alloc (.deferred (some []))) (.loop (rc .ready none)); rwa [World.size_alloc] at this
  have dV : V.heap[w.heap.size]? = some (.deferred (some [])) := by rw [← hV]; exact (Below.heap_alloc _ _ _ (by simp)).trans (World.alloc_heap_new w _)
  have iV : I [] V := hI _ _ _ h0 (Turns.of_below bV)
  let Bk : LoopState → Option Code → World → Prop := fun st pe X => X.heap[w.heap.size + 1]? = some (.loop (rc st pe)) ∧ X.heap[w.heap.size]? = some (.deferred (some []))
  have stB : ∀ st pe {X Y : World}, Bk st pe X → Turns (Hb b v) X Y → Bk st pe Y := fun st pe X Y h t =>
    ⟨t.same (fun e => by have := hM _ e; omega) h.1, t.same (fun e => by have := hM _ e; omega) h.2⟩
  have kpB : ∀ {st pe} {X Y : World}, Bk st pe X → Kq w.heap.size (fun k => Hb b v k ∨ k = c) X Y → Bk st pe Y := fun h k =>
    ⟨(k.2 _ (.inl (by omega)) (Array.getElem?_eq_some_iff.1 h.1).1).trans h.1, (k.2 _ (.inl (Nat.le_refl _)) (Array.getElem?_eq_some_iff.1 h.2).1).trans h.2⟩
  have turn : ∀ {X : World} {st pe} (st' : LoopState) (pe' : Option Code), Bk st pe X → Bk st' pe' (X.putObj (w.heap.size + 1) (.loop (rc st' pe'))) := fun st' pe' h =>
    ⟨World.putObj_heap_same (Array.getElem?_eq_some_iff.1 h.1).1, (World.putObj_heap_other (by omega)).trans h.2⟩
  have putI : ∀ {α : Type} {J : α → World → Prop} {s : α} {X : World} (o : Obj), Stab (fun k => Hb b v k ∨ w.heap.size ≤ k) J → J s X → J s (X.putObj (w.heap.size + 1) o) := fun o hJ h => hJ _ _ _ h (turns_put _ o _ (.inr (by omega)))
  refine ⟨w.heap.size + 1, [{ target := .collected w.heap.size, args := #[] }], V, { target := .fn (.func 25) #[ptr c], args := #[.func (.yield (w.heap.size + 1)) #[] #[]] }, V, 25, #[.func (.yield (w.heap.size + 1)) #[] #[], ptr c], V, ?_, ?_, fun _ _ => trivial, ?_, fun _ => h1, ?_⟩
  · rw [← hV, ← hrc]; exact run_enterLoop_outer _ _ _ _ _
  · simp only [resolve, hg]; simp [go_sem]
  · have eg := enters_of Try.func25 (by kernel_rfl) rfl
    simp [invoke, go_sem, eg]
  refine (drain_seq (n - 1) c b (w.heap.size + 1) v cnt S (fun pre X => I pre X ∧ Bk .ready none X ∧ w.heap.size + 2 ≤ X.heap.size) (fun pre X => ∃ cd, Ix cd pre X ∧ Bk .done (some cd) X) V ((bV.block c hcl).trans hc) (hs.upto bV) hlen
    (fun s X Y h t => ⟨hI _ _ _ h.1 (t.mono (fun k _ e => .inl e)), stB _ _ h.2.1 t, Nat.le_trans h.2.2 t.size⟩) hcb ?_ ⟨iV, ⟨lV, dV⟩, by omega⟩).mono ?_
  · rintro pre x X ⟨iX, bX, zX⟩ hnx
    have hy := run_yield (P := Try.prog) (args := #[itv x.k x.n]) bX.1 (by rw [← hrc]; exact hps.symm)
    rw [← hrc] at hy
    refine ⟨fn, _, assign, body, hy, roundIn_of_wpIn trivial (hassign _ pre x X _ iX zX ?_)⟩
    intro a' Y kY iY axY
    have bY := kpB bX kY
    refine ⟨_, run_beginRound bY.1 (by rw [← hrc]), ?_⟩
    rw [show (Obj.loop { rc .ready none with state := .busy }) = .loop (rc .busy none) by rw [← hrc]]
    have bZ := turn .busy none bY
    refine wpIn_mono (hbody _ pre x a' _ (by omega) (putI _ hI iY) (hAx x a' () _ _ axY (turns_put _ _ _ ⟨by omega, by omega⟩)) hnx (by have := kY.1; simp; omega)) ?_
    have fin : ∀ (j : Option Code) (U : World), Kq w.heap.size (fun k => Hb b v k ∨ k = c) (Y.putObj (w.heap.size + 1) (.loop (rc .busy none))) U →
        (Instr.endRound (w.heap.size + 1) j).run Try.prog U = .ok (.bool j.isNone) (U.putObj (w.heap.size + 1) (.loop (rc (if j.isNone then .ready else .done) j))) ∧ Bk .busy none U := fun j U kU => by
      have bU : Bk .busy none U := kpB bZ kU
      refine ⟨?_, bU⟩
      have := run_endRound (P := Try.prog) j bU.1
      rw [← hrc] at this ⊢
      exact this
    have kept : ∀ {U : World} (o : Obj), Kq w.heap.size (fun k => Hb b v k ∨ k = c) (Y.putObj (w.heap.size + 1) (.loop (rc .busy none))) U → (∀ k, (Hb b v k ∨ k = c) → k < X.heap.size → (U.putObj (w.heap.size + 1) o).heap[k]? = X.heap[k]?) ∧ X.heap.size ≤ (U.putObj (w.heap.size + 1) o).heap.size := fun {U} o kU => by
      refine ⟨fun k e hl => ?_, by have h1 := kY.1; have h2 := kU.1; simp at h2 ⊢; omega⟩
      have hkw : k < w.heap.size := by rcases e with e | e; exact hM k e; omega
      have hY := kY.1
      rw [World.putObj_heap_other (by omega), kU.2 k (.inr e) (by simp; omega), World.putObj_heap_other (by omega), kY.2 k (.inr e) hl]
    rintro e a3 U hp
    cases e with
    | normal =>
      obtain ⟨kU, iU⟩ := hp
      obtain ⟨hr, bU⟩ := fin none U kU
      exact ⟨_, _, hr, kept _ kU, .inl ⟨rfl, putI _ hI iU, turn _ _ bU, by have h1 := kY.1; have h2 := kU.1; simp at h2 ⊢; omega⟩⟩
    | ret =>
      obtain ⟨kU, iU⟩ := hp
      obtain ⟨hr, bU⟩ := fin (some .ret) U kU
      exact ⟨_, _, hr, kept _ kU, .inr ⟨rfl, .ret, putI _ (hIx _) iU, turn _ _ bU⟩⟩
    | exit id =>
      obtain ⟨kU, iU⟩ := hp
      obtain ⟨hr, bU⟩ := fin (some (.exit id)) U kU
      exact ⟨_, _, hr, kept _ kU, .inr ⟨rfl, .exit id, putI _ (hIx _) iU, turn _ _ bU⟩⟩
    | goto t => exact hp.elim
    | panic ch => exact hp.elim
    | outgrown => exact hp.elim
  · rintro e U ⟨⟨z, rfl⟩, xs, R, v', hd, hh, ho, (⟨rfl, iU, bU, -⟩ | ⟨cd, iU, bU⟩)⟩
    · refine ⟨none, _, ?_, hdone _ xs v' _ (Nat.le_refl _) hd (putI _ hI iU) (hh.same (fun k e => World.putObj_heap_other (by have := hM k (e.imp id (ho k)); omega))) ho (turn .exhausted none bU).2⟩
      have := run_endLoop (P := Try.prog) bU.1 (by rw [← hrc]; simp)
      rw [← hrc] at this ⊢
      exact this
    · refine ⟨some cd, _, ?_, hstop _ cd xs R v' _ (Nat.le_refl _) hd (putI _ (hIx _) iU) (hh.same (fun k e => World.putObj_heap_other (by have := hM k (e.imp id (ho k)); omega))) ho (turn .exhausted (some cd) bU).2⟩
      have := run_endLoop (P := Try.prog) bU.1 (by rw [← hrc]; simp)
      rw [← hrc] at this ⊢
      exact this
end Go.Proofs.Ytdhiomahcilffaa
