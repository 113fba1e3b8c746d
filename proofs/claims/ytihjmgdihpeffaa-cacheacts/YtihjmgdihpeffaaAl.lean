/-
  All's function: the ways, the oldest first, each with its key.
-/
import Derived.Test.YtihjmgdihpeffaaSq
namespace Go.Proofs.Ytihjmgdihpeffaa
open Go.RowKit Go.Shelf
set_option linter.unusedVariables false
set_option linter.unusedSimpArgs false
attribute [local go_sem] Oper.semAt_some
theorem kwL_at (F : K6 → Value) (L : List En) {k : Nat} {x : En} (h : L[k]? = some x) : (kwL F L)[k]? = some (x.1, wvOf (F x.1)) := by
  rw [kwL, List.getElem?_map, h]
  rfl
set_option maxRecDepth 100000 in
set_option maxHeartbeats 4000000 in
theorem all_seq (n b c m l : Nat) {ov : Value} {room ep : Int} {F : K6 → Value} {L : List En} (J : List En → World → Prop) (W : World) (hc : Boxed W b 24 (ptr c)) (hs : PC W c m ov room ep F L)
    (h0 : ∀ W1, Below W.heap.size W W1 → J [] W1) (hJ : ∀ pre X Y, J pre X → Below X.heap.size X Y → J pre Y)
    (hR : ∀ pre X, J pre X → ∀ x ∈ L, ∀ v, F x.1 = wy x.2.1 v → Cn X v x.2.2)
    (hY : ∀ pre x a n' c' X, J pre X → pre ++ [x] <+: L → Cn X (.slice a n' c') x.2.2 → (∀ g, (Value.slice a n' c').ownBlock = some g → W.heap.size ≤ g) → YieldAt Fence.wide (n - 1) Try.prog l #[kv x.1, wy x.2.1 (.slice a n' c')] X fun e Y => Keep W.heap.size X Y ∧ e = .returned (.bool true) ∧ J (pre ++ [x]) Y) :
    CallsIn Fence.wide n Try.prog 22 #[.func (.yield l) #[] #[], ptr b] W fun e Y => (∃ z, e = .returned z) ∧ J L Y := by
  refine callsIn_of_wp Try.func22 rfl trivial ?_ rfl
  simp only [Try.ntmps22, List.size_toArray, List.length_cons, List.length_nil, Nat.reduceAdd, Nat.reduceSub, Array.replicate_succ, Array.replicate_zero, List.push_toArray, List.append_toArray, List.nil_append, List.cons_append]
  have c0 := hc.cell
  have HMd := hide (made_yes c m W (hs.blk.cell 2 _ rfl))
  have HIn := hide (inorder_is hs)
  have hlen : L.length ≤ 256 := by have := hs.rm; have := hs.le; omega
  have HW := hide (And.intro hs.way hs.fit)
  have HJ := hide hJ
  have HY := hide hY
  have HJ0 := hide h0
  have HR := hide hR
  clear hJ hY h0 hR hs
  gi_wp2_with fail
  refine ⟨trivial, fun h => (by cases h), ?_⟩
  refine (callsIn_wide.2 HMd.out).mono ?_
  rintro e Z ⟨rfl, hz⟩
  rw [hz]
  clear hz Z HMd
  gi_wp2_with fail
  refine ⟨trivial, fun h => (by cases h), ?_⟩
  refine (callsIn_wide.2 HIn.out).mono ?_
  rintro e w1 ⟨a1, n1, c1, rfl, hk1, ho1, hb1⟩
  have hn1 : n1 = L.length := by
    have : (kwL F L).length = L.length := by simp [kwL]
    rw [← this]
    rcases hk1.slice with ⟨e, e0⟩ | ⟨g, cap, e, -⟩
    · cases e; rw [e0]; rfl
    · cases e; rfl
  subst hn1
  have kl : (0 : Int) ≤ (L.length : Nat) ∧ ((L.length : Nat) : Int) ≤ 256 := by omega
  have j1 := HJ0.out w1 hb1
  have HK1 := hide (And.intro hk1 <| And.intro ho1 hb1)
  clear HIn c0 hk1 ho1 hb1
  gi_wp2_with fail
  gi_loopw [11] (fun d wr => ∃ k : Nat, k ≤ L.length ∧ d = .int .i64 k ∧ J (L.take k) wr ∧ Keep W.heap.size w1 wr) (fun d _ => L.length - (intOf d).toNat)
  case atStart => exact ⟨0, Nat.zero_le _, rfl, by rw [List.take_zero]; exact j1, Keep.refl _ _⟩
  case round =>
    obtain ⟨k, hk, rfl, hJk, hKk⟩ := hrel
    by_cases hlt : k < L.length
    · obtain ⟨x, hx⟩ : ∃ x, L[k]? = some x := ⟨_, List.getElem?_eq_getElem hlt⟩
      obtain ⟨hk1, ho1, hb1⟩ := HK1.out
      obtain ⟨g, cap, e, -, hgl, hcs⟩ := Rw.elt kwCs_len hk1 (kwL_at F L hx)
      have ho1 := ho1
      rw [e] at ho1
      have hgW : W.heap.size ≤ g := ho1 g rfl
      injection e with e1 e2 e3
      subst e1
      clear e2 e3
      have hxm := List.mem_of_getElem? hx
      obtain ⟨v, hF, -⟩ := HW.out.1 x hxm
      have hvX := HR.out _ _ hJk x hxm v hF
      obtain ⟨av, nv, cv, rfl⟩ := hvX.shape
      rw [hF, wvOf_wy] at hcs
      have hcell : ∀ j u, (kwCs (x.1, (x.2.1, av, nv, cv)))[j]? = some u → wr.cell? ⟨g, k * 8 + j, none⟩ = some u := fun j u hu =>
        (World.cell?_of_block (a := ⟨g, k * 8 + j, none⟩) (hKk.2 g hgW hgl)).trans (hcs j u hu)
      have d0 : wr.cell? ⟨g, k * 8 + 0, none⟩ = some (.int .i64 x.1.1) := hcell 0 _ rfl
      have d1 : wr.cell? ⟨g, k * 8 + 1, none⟩ = some (.int .i64 x.1.2.1) := hcell 1 _ rfl
      have d2 : wr.cell? ⟨g, k * 8 + 2, none⟩ = some (.int .i64 x.1.2.2.1) := hcell 2 _ rfl
      have d3 : wr.cell? ⟨g, k * 8 + 3, none⟩ = some (.int .i64 x.1.2.2.2.1) := hcell 3 _ rfl
      have d4 : wr.cell? ⟨g, k * 8 + 4, none⟩ = some (.int .i64 x.1.2.2.2.2.1) := hcell 4 _ rfl
      have d5 : wr.cell? ⟨g, k * 8 + 5, none⟩ = some (.int .i64 x.1.2.2.2.2.2) := hcell 5 _ rfl
      have d6 : wr.cell? ⟨g, k * 8 + 6, none⟩ = some (.int .i64 x.2.1) := hcell 6 _ rfl
      have d7 : wr.cell? ⟨g, k * 8 + 7, none⟩ = some (.slice av nv cv) := hcell 7 _ rfl
      rw [Nat.add_zero] at d0
      have htk : L.take (k + 1) = L.take k ++ [x] := by rw [List.take_add_one, hx]; rfl
      have hki : (k : Int) < (L.length : Nat) := by omega
      obtain ⟨X, hX⟩ : ∃ X, (wr.alloc (.cells #[.int .i64 x.1.1, .int .i64 x.1.2.1, .int .i64 x.1.2.2.1, .int .i64 x.1.2.2.2.1, .int .i64 x.1.2.2.2.2.1, .int .i64 x.1.2.2.2.2.2, .int .i64 x.2.1, .slice av nv cv] 70)).drew = X := ⟨_, rfl⟩
      have BX : Below wr.heap.size wr X := by rw [← hX]; exact (box1 _ _).drew
      have KX : Bk X wr.heap.size 70 (kwCs (x.1, (x.2.1, av, nv, cv))) := by rw [← hX]; exact (Bk.new wr 70 (kwCs (x.1, (x.2.1, av, nv, cv)))).drew
      have hsz : W.heap.size ≤ wr.heap.size := Nat.le_trans hb1.size hKk.1
      have hCp := copied_is x.2.1 (.slice av nv cv) x.2.2 X (Cn.ceR (Rw.upto hvX BX)) (HW.out.2 x hxm)
      have HCp := hide hCp
      have HX := hide hX
      have HKX := hide (And.intro BX <| And.intro KX <| And.intro hsz <| And.intro hJk hKk)
      have hpre : L.take k ++ [x] <+: L := by rw [← htk]; exact List.take_prefix _ _
      clear hk1 ho1 hb1 hcs hcell hF hvX BX KX hX hCp hJk hKk
      gi_wp2_with fail
      refine wpIn_only ?_
      refine wpIn_region_goes (S := fun wx => Bk wx wr.heap.size 70 (kwCs (x.1, (x.2.1, av, nv, cv)))) (by kernel_rfl) ?_
      rw [HX.out]
      refine GoesF.take (fun _ => trivial) (i := 0) (v := .func (.yield l) #[] #[]) rfl (by kernel_rfl) (by kernel_rfl) (by kernel_rfl) (by kernel_rfl) (Or.inl ⟨by rfl, fun wx hx => by go_simp⟩) HKX.out.2.1 ?_
      simp only [zp]
      refine GoesF.take (fun _ => trivial) (i := 1) (v := .pointer (some ⟨wr.heap.size, 0, none⟩)) rfl (by kernel_rfl) (by kernel_rfl) (by kernel_rfl) (by kernel_rfl) (Or.inl ⟨by rfl, fun wx hx => by go_simp⟩) HKX.out.2.1 ?_
      simp only [zp]
      refine GoesF.take (fun _ => trivial) (i := 2) (v := kv x.1) rfl (by kernel_rfl) (by kernel_rfl) (by kernel_rfl) (by kernel_rfl) (Or.inl ⟨by rfl, fun wx hx => by have c0 := hx.cell 0 _ rfl; have c1 := hx.cell 1 _ rfl; have c2 := hx.cell 2 _ rfl; have c3 := hx.cell 3 _ rfl; have c4 := hx.cell 4 _ rfl; have c5 := hx.cell 5 _ rfl; clear hx; go_simp⟩) HKX.out.2.1 ?_
      simp only [zp]
      refine GoesF.take (fun _ => trivial) (i := 3) (v := .pointer (some ⟨wr.heap.size, 6, none⟩)) rfl (by kernel_rfl) (by kernel_rfl) (by kernel_rfl) (by kernel_rfl) (Or.inl ⟨by rfl, fun wx hx => by go_simp⟩) HKX.out.2.1 ?_
      simp only [zp]
      refine GoesF.take (fun _ => trivial) (i := 4) (v := wy x.2.1 (.slice av nv cv)) rfl (by kernel_rfl) (by kernel_rfl) (by kernel_rfl) (by kernel_rfl) (Or.inl ⟨by rfl, fun wx hx => by have c6 : wx.cell? ⟨wr.heap.size, 6, none⟩ = some (.int .i64 x.2.1) := hx.cell 6 _ rfl; have c7 : wx.cell? ⟨wr.heap.size, 7, none⟩ = some (.slice av nv cv) := hx.cell 7 _ rfl; clear hx; go_simp⟩) HKX.out.2.1 ?_
      simp only [zp]
      refine GoesF.one (fun _ => trivial) (i := 5) (by kernel_rfl) rfl (fun K hK => ?_)
      go_simp
      refine ⟨trivial, fun h => (by cases h), ?_⟩
      refine (callsIn_wide.2 HCp.out).mono ?_
      rintro e2 X2 ⟨v2, rfl, hv2, ho2, hb2⟩
      obtain ⟨a2, n2, c2, rfl⟩ := hv2.shape
      have K2 := HKX.out.2.1.upto hb2
      have hsz2 : W.heap.size ≤ X.heap.size := Nat.le_trans HKX.out.2.2.1 HKX.out.1.size
      have J2 := HJ.out _ _ _ (HJ.out _ _ _ HKX.out.2.2.2.1 HKX.out.1) hb2
      obtain ⟨fn, tmps, assign, body, hy, hRd⟩ := HY.out (L.take k) x a2 n2 c2 X2 J2 hpre hv2 (fun g hg => Nat.le_trans hsz2 (ho2 g hg))
      have HB2 := hide (And.intro hb2 hsz2)
      have HRd := hide hRd
      clear hv2 hb2 hsz2 J2 hRd ho2
      refine hK.out _ _ K2 ?_
      clear hK K
      refine GoesF.one (fun _ => trivial) (i := 6) (by kernel_rfl) rfl (fun K hK => ?_)
      go_simp
      refine ⟨fun h => (by cases h), ?_⟩
      refine HRd.out.mono ?_
      rintro e3 X3 ⟨hk3, rfl, hJ3⟩
      have K3 : Bk X3 wr.heap.size 70 (kwCs (x.1, (x.2.1, av, nv, cv))) := hk3.at HKX.out.2.2.1 K2
      have HJ3 : Hid (J (L.take (k + 1)) X3 ∧ Keep W.heap.size w1 X3) := ⟨by rw [htk]; exact hJ3, (HKX.out.2.2.2.2.trans (Keep.of_below HKX.out.1)).trans ((Keep.of_below HB2.out.1).trans hk3)⟩
      clear hk3 hJ3 hy HRd
      refine hK.out _ _ K3 ?_
      clear hK K
      refine GoesF.take (fun _ => trivial) (i := 7) (v := .bool false) rfl (by kernel_rfl) (by kernel_rfl) (by kernel_rfl) (by kernel_rfl) (Or.inl ⟨by rfl, fun wx hx => by go_simp⟩) K3 ?_
      simp only [zp]
      refine GoesF.done (by kernel_rfl) ?_ _
      dsimp only [Only, Exit.then]
      clear d0 d1 d2 d3 d4 d5 d6 d7
      gi_wp2_with fail
      go_roundw
      case rel => exact ⟨k + 1, by omega, by go_num, HJ3.out⟩
      case measure => simp [intOf]; omega
    · have hkb : k = L.length := by omega
      subst hkb
      gi_wp2_with fail
      go_end0
      exact ⟨⟨_, rfl⟩, by rw [List.take_length] at hJk; exact hJk⟩
def alPost (B : Nat) (I : List En → World → Prop) (xs : List En) (X : World) : Exit → Act → World → Prop
  | .normal, _, Y => Keep B X Y ∧ I xs Y
  | _, _, _ => False
theorem turns_put (X : World) {l : Nat} (o : Obj) (S : Nat → Prop) (hl : S l) : Turns S X (X.putObj l o) := by
  have h := grownBy_putObj' X l o
  exact ⟨h.os, h.tape, h.output, h.size, fun k hk hn => h.block k hk (fun e => hn (by cases e; exact hl))⟩
theorem range_all {n : Nat} {g : Operand} {ps : Array Tmp} {assign body : Code} {Q : Exit → Act → World → Prop} {a : Act} {w : World} (h1 : 1 ≤ n) {b c m : Nat} {ov : Value} {room ep : Int} {F : K6 → Value} {L : List En}
    (hg : a.eval g = .func (.func 22) #[] #[ptr b]) (hc : Boxed w b 24 (ptr c)) (hs : PC w c m ov room ep F L) (hps : ps.size = 2)
    (I : List En → World → Prop) (hI : ∀ pre X Y, I pre X → Turns (fun k => k = w.heap.size + 1) X Y → I pre Y) (h0 : ∀ W, Below w.heap.size w W → I [] W)
    (hR : ∀ pre X, I pre X → ∀ x ∈ L, ∀ v, F x.1 = wy x.2.1 v → Cn X v x.2.2)
    (Ax : En → Value → Act → World → Prop) (hAx : ∀ x v a' X Y, Ax x v a' X → Turns (fun k => k = w.heap.size + 1) X Y → Ax x v a' Y)
    (hassign : ∀ (l : Nat) (pre : List En) (x : En) (a2 : Option Addr) (n2 c2 : Nat) (W : World) (K : Act → World → Prop), I pre W → pre ++ [x] <+: L → Cn W (.slice a2 n2 c2) x.2.2 → (∀ g, (Value.slice a2 n2 c2).ownBlock = some g → w.heap.size + 2 ≤ g) → w.heap.size + 2 ≤ W.heap.size → (∀ a' W', Below W.heap.size W W' → I pre W' → Ax x (.slice a2 n2 c2) a' W' → K a' W') →
      assign.wpIn (Fence.wide.inRound l) (n - 1 - 1) Try.prog (Exit.then K (fun _ _ _ => False)) { tmps := (ps.zip #[kv x.1, wy x.2.1 (.slice a2 n2 c2)]).foldl (fun t (p, v) => t.setIfInBounds p v) a.tmps, defers := [] } W)
    (hbody : ∀ (l : Nat) (pre : List En) (x : En) (a2 : Option Addr) (n2 c2 : Nat) (a' : Act) (W : World), w.heap.size ≤ l → I pre W → Ax x (.slice a2 n2 c2) a' W → pre ++ [x] <+: L → body.wpIn (Fence.wide.inRound l) (n - 1 - 1) Try.prog (alPost w.heap.size I (pre ++ [x]) W) a' W)
    (hdone : ∀ (D : Nat) (W : World), w.heap.size ≤ D → I L W → W.heap[D]? = some (.deferred (some [])) → Q .normal { a with defers := { target := .collected D, args := #[] } :: a.defers } W) :
    (Code.rangeFunc g ps assign body).wpIn Fence.wide n Try.prog Q a w := by
  have hcl := hc.lt
  refine wpIn_rangeFunc (fun fn hfn => ?_)
  generalize hrc : (fun st pe => ({ state := st, pending := pe, fn := fn, tmps := a.tmps, params := ps, assign := assign, body := body, defers := w.heap.size } : Loop)) = rc
  generalize hV : (w.alloc (.deferred (some []))).alloc (.loop (rc .ready none)) = V
  have zV : V.heap.size = w.heap.size + 2 := by rw [← hV]; simp
  have bV : Below w.heap.size w V := by rw [← hV]; exact box2 _ _ _
  have lV : V.heap[w.heap.size + 1]? = some (.loop (rc .ready none)) := by rw [← hV]; have := World.alloc_heap_new (w.alloc (.deferred (some []))) (.loop (rc .ready none)); rwa [World.size_alloc] at this
  have dV : V.heap[w.heap.size]? = some (.deferred (some [])) := by rw [← hV]; exact (Below.heap_alloc _ _ _ (by simp)).trans (World.alloc_heap_new w _)
  let Bj : LoopState → Option Code → World → Prop := fun st pe X => X.heap[w.heap.size + 1]? = some (.loop (rc st pe)) ∧ X.heap[w.heap.size]? = some (.deferred (some []))
  have stB : ∀ st pe {X Y : World}, Bj st pe X → Below V.heap.size X Y → Bj st pe Y := fun st pe X Y h t =>
    ⟨(t.block _ (by omega)).trans h.1, (t.block _ (by omega)).trans h.2⟩
  have kpB : ∀ {st pe} {X Y : World}, Bj st pe X → Keep w.heap.size X Y → Bj st pe Y := fun h k =>
    ⟨k.at (by omega) h.1, k.at (Nat.le_refl _) h.2⟩
  have turn : ∀ {X : World} {st pe} (st' : LoopState) (pe' : Option Code), Bj st pe X → Bj st' pe' (X.putObj (w.heap.size + 1) (.loop (rc st' pe'))) := fun st' pe' h =>
    ⟨World.putObj_heap_same (Array.getElem?_eq_some_iff.1 h.1).1, (World.putObj_heap_other (by omega)).trans h.2⟩
  have putI : ∀ {s : List En} {X : World} (o : Obj), I s X → I s (X.putObj (w.heap.size + 1) o) := fun o h => hI _ _ _ h (turns_put _ o _ rfl)
  refine ⟨w.heap.size + 1, [{ target := .collected w.heap.size, args := #[] }], V, { target := .fn (.func 22) #[ptr b], args := #[.func (.yield (w.heap.size + 1)) #[] #[]] }, V, 22, #[.func (.yield (w.heap.size + 1)) #[] #[], ptr b], V, ?_, ?_, fun _ _ => trivial, ?_, fun _ => h1, ?_⟩
  · rw [← hV, ← hrc]; exact run_enterLoop_outer _ _ _ _ _
  · simp only [resolve, hg]; simp [go_sem]
  · have eg := enters_of Try.func22 (by kernel_rfl) rfl
    simp [invoke, go_sem, eg]
  refine (all_seq (n - 1) b c m (w.heap.size + 1) (fun pre X => I pre X ∧ Bj .ready none X ∧ V.heap.size ≤ X.heap.size) V ((bV.block b hcl).trans hc) (hs.upto bV)
    (fun W1 hb => ⟨h0 W1 (bV.trans (hb.mono (by omega))), stB _ _ ⟨lV, dV⟩ hb, hb.size⟩)
    (fun pre X Y h hb => ⟨hI _ _ _ h.1 (Turns.of_below hb), stB _ _ h.2.1 (hb.mono h.2.2), Nat.le_trans h.2.2 hb.size⟩)
    (fun pre X h => hR pre X h.1) ?_).mono ?_
  · rintro pre x a2 n2 c2 X ⟨iX, bX, zX⟩ hnx hcn hown
    have hy := run_yield (P := Try.prog) (args := #[kv x.1, wy x.2.1 (.slice a2 n2 c2)]) bX.1 (by rw [← hrc]; exact hps.symm)
    rw [← hrc] at hy
    refine ⟨fn, _, assign, body, hy, roundIn_of_wpIn trivial (hassign _ pre x a2 n2 c2 X _ iX hnx hcn (fun g hg => by have := hown g hg; omega) (by omega) ?_)⟩
    intro a' Y kY iY axY
    have bY : Bj .ready none Y := stB _ _ bX (kY.mono (by omega))
    refine ⟨_, run_beginRound bY.1 (by rw [← hrc]), ?_⟩
    rw [show (Obj.loop { rc .ready none with state := .busy }) = .loop (rc .busy none) by rw [← hrc]]
    have bZ := turn .busy none bY
    refine wpIn_mono (hbody _ pre x a2 n2 c2 a' _ (by omega) (putI _ iY) (hAx x _ a' _ _ axY (turns_put _ _ _ rfl)) hnx) ?_
    rintro e a3 U hp
    cases e with
    | normal =>
      obtain ⟨kU, iU⟩ := hp
      have bU : Bj .busy none U := kpB bZ kU
      have hr : (Instr.endRound (w.heap.size + 1) none).run Try.prog U = .ok (.bool true) (U.putObj (w.heap.size + 1) (.loop (rc .ready none))) := by
        have := run_endRound (P := Try.prog) none bU.1
        rw [← hrc] at this ⊢
        exact this
      exact ⟨_, _, hr, ((Keep.of_below (B := V.heap.size) kY).trans (Keep.put _ _ (by omega))).trans ((kU.mono (by omega)).trans (Keep.put _ _ (by omega))), rfl, putI _ iU, turn _ _ bU, by have h1 := kY.size; have h2 := kU.1; simp at h2 ⊢; omega⟩
    | ret => exact hp.elim
    | exit id => exact hp.elim
    | goto t => exact hp.elim
    | panic ch => exact hp.elim
    | outgrown => exact hp.elim
  · rintro e U ⟨⟨z, rfl⟩, iU, bU, zU⟩
    refine ⟨none, _, ?_, hdone _ _ (Nat.le_refl _) (putI (.loop (rc .exhausted none)) iU) (turn .exhausted none bU).2⟩
    have := run_endLoop (P := Try.prog) bU.1 (by rw [← hrc]; simp)
    rw [← hrc] at this ⊢
    exact this
end Go.Proofs.Ytihjmgdihpeffaa
