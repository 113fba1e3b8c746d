/-
  What onCells hands back goes through: the units that have a rectangle's cells, cell by cell.
-/
import Derived.Test.YtkodeopkgmichaaSmall
namespace Go.Proofs.Ytkodeopkgmichaa
open Go.RowKit Go.Shelf
set_option linter.unusedVariables false
attribute [local go_sem] Oper.semAt_some
/-- A round may be walked within another loop's round, whatever the depth. -/
theorem round_any {m m' l : Nat} {f : FuncId} {tmps : Array Value} {assign body : Code} {w : World} {R : Ending → World → Prop} (l' : Nat) (h : RoundIn Fence.wide m Try.prog l f tmps assign body w R) :
    RoundIn (Fence.wide.inRound l') m' Try.prog l f tmps assign body w R := ⟨h.1, fun c cs _ => h.2 c cs (fun d hd => by cases hd)⟩
def onL (f : Int → Int → Option Int) (l : List Cel) : List Int := l.filterMap (fun q => f q.1.1 q.1.2)
theorem onL_snoc (f : Int → Int → Option Int) (l : List Cel) (q : Cel) : onL f (l ++ [q]) = onL f l ++ (f q.1.1 q.1.2).toList := by
  unfold onL
  rw [List.filterMap_append]
  cases h : f q.1.1 q.1.2 <;> simp [h]
theorem onL_len (f : Int → Int → Option Int) (l : List Cel) : (onL f l).length ≤ l.length := List.length_filterMap_le _ _
theorem onL_pre (f : Int → Int → Option Int) {l m : List Cel} (h : l <+: m) : onL f l <+: onL f m := by obtain ⟨t, rfl⟩ := h; exact ⟨onL f t, by simp [onL]⟩
abbrev encI (i : Int) : Array Value := #[.int .i64 i]
theorem keeps_below {W W' : World} (h : Below W.heap.size W W') : KeepsOthers W W' := ⟨h.size, fun k o hk _ => (h.block k (Array.getElem?_eq_some_iff.1 hk).1).trans hk⟩
theorem boxed_upto {n₀ : Nat} {W W' : World} {k : Nat} {t : TypeId} {v : Value} (h : Boxed W k t v) (hB : Below n₀ W W') (hk : k < n₀) : Boxed W' k t v := (hB.block k hk).trans h
theorem Two.own {W W' : World} {row : Option Nat} {k : Nat} {u v : Int} (h : Two W k u v) (hg : W.grownBy W' row) (hr : ∀ r, row = some r → ∃ o : Obj, W.heap[r]? = some o ∧ o.isCells = false) : Two W' k u v :=
  ⟨⟨cell_kept h.1.1 hg hr, cell_kept h.1.2 hg hr⟩, ⟨(frozen_kept h.1.1 hg hr).trans h.2.1.1, (frozen_kept h.1.2 hg hr).trans h.2.1.2⟩, Nat.lt_of_lt_of_le h.2.2 hg.size⟩
theorem own_below {β : Type} {B : Nat} {J : β → World → Prop} (hJ : OwnFrom B J) {s : β} {W W' : World} (hs : J s W) (h : Below W.heap.size W W') : J s W' := hJ s W W' none hs (below_grown h) (fun r e => by cases e)
theorem own_wide {β : Type} {B C : Nat} {J : β → World → Prop} (h : OwnFrom B J) (hB : B ≤ C) : OwnFrom C J := fun s X Y row hs hgr hr => h s X Y row hs hgr (fun r e => ⟨by have := (hr r e).1; omega, (hr r e).2⟩)
theorem own_map {β γ : Type} {B : Nat} {J : β → World → Prop} (h : OwnFrom B J) (k : γ → β) : OwnFrom B (fun s W => J (k s) W) := fun s X Y row hs hgr hr => h (k s) X Y row hs hgr hr
theorem ownFrom_size {β : Type} (B N : Nat) : OwnFrom B (fun (_ : β) W => N ≤ W.heap.size) := fun _ _ _ _ hs hg _ => Nat.le_trans hs hg.size
set_option maxRecDepth 100000 in
set_option maxHeartbeats 4000000 in
theorem onCells_seq (n p h bm m N : Nat) (f : Int → Int → Option Int) (x y a b : Int) (w : World) (hn : 1 ≤ n) (hP : Boxed w h 24 (ptr p)) (hF : Four w (h + 1) x y a b) (hc : w.cell? ⟨p, 1, none⟩ = some (.map (some bm))) (hw : Who w bm m f)
    (hN : may x y a b = true → b.toNat * a.toNat ≤ N) :
    SeqOwn n 60 #[ptr (h + 1), ptr h] encI (Below w.heap.size) (fun xs => xs = onL f (allC x y a b)) (fun pre => pre <+: onL f (allC x y a b)) N w := fun l J Jx W hW hJ hJx hY h0 => by
  refine callsIn_of_wp_marks Try.func60 rfl trivial ?_ rfl
  simp only [Try.ntmps60, List.size_toArray, List.length_cons, List.length_nil, Nat.reduceAdd, Nat.reduceSub, Array.replicate_succ, Array.replicate_zero, List.push_toArray, List.append_toArray, List.nil_append, List.cons_append]
  have hpl := World.block_lt_of_cell? w _ hc
  have hbl := hw.lt
  have hhl := hP.lt
  have hfl := hF.2.2
  have hsW := hW.size
  obtain ⟨V0, hV0⟩ : ∃ V0, W.alloc (.cells #[.func (.yield l) #[] #[]] 87) = V0 := ⟨_, rfl⟩
  have B0 : Below W.heap.size W V0 := by rw [← hV0]; exact box1 _ _
  have Y0 : Boxed V0 W.heap.size 87 (.func (.yield l) #[] #[]) := by rw [← hV0]; exact Boxed.new W 87 _
  have z0 : V0.heap.size = W.heap.size + 1 := by rw [← hV0]; simp
  have hW0 : Below w.heap.size w V0 := hW.trans (B0.mono hW.size)
  have F0 : Four V0 (h + 1) x y a b := hF.kept hW0
  obtain ⟨⟨k0, k1, k2, k3⟩, -, -⟩ := F0
  gi_wp2_with fail
  refine ⟨trivial, ?_⟩
  refine (callsIn_wide.2 (cells_any _ _ _ _ _)).mono ?_
  rintro e w1 ⟨rfl, rfl⟩
  have F1 : Four (V0.alloc (.cells #[.int .i64 x, .int .i64 y, .int .i64 a, .int .i64 b] 34)) V0.heap.size x y a b := cells4 (Below.refl _ _)
  have B1 := box1 V0 (.cells #[.int .i64 x, .int .i64 y, .int .i64 a, .int .i64 b] 34)
  have z1 : (V0.alloc (.cells #[.int .i64 x, .int .i64 y, .int .i64 a, .int .i64 b] 34)).heap.size = W.heap.size + 2 := by simp [z0]
  clear hV0 k0 k1 k2 k3
  gi_wp2_with fail
  obtain ⟨V, hV⟩ : ∃ V, V0.alloc (.cells #[.int .i64 x, .int .i64 y, .int .i64 a, .int .i64 b] 34) = V := ⟨_, rfl⟩
  rw [hV] at F1 B1 z1 ⊢
  clear hV
  have hWV : Below w.heap.size w V := hW0.trans (B1.mono hW0.size)
  have Y1 : Boxed V W.heap.size 87 (.func (.yield l) #[] #[]) := boxed_upto Y0 B1 (by omega)
  have j1 : J [] V := own_below hJ h0 (bt B0 B1)
  rw [z0] at F1
  refine wpIn_rangeFunc_ownH rfl hn (gf := 63) (lb := #[ptr (W.heap.size + 1)]) rfl trivial (enters_of Try.func63 (by kernel_rfl) rfl)
    (cells_stops (n - 1) (W.heap.size + 1) N x y a b V F1 hN) kB_t (kB_b (by omega)) (Below.refl _ _) (fun _ => rfl)
    (fun pre X => ((J (onL f pre) X ∧ Below w.heap.size w X) ∧ V.heap.size ≤ X.heap.size) ∧ Boxed X W.heap.size 87 (.func (.yield l) #[] #[]))
    (fun c pre X => c = .ret ∧ Jx (onL f pre) X)
    (OwnFrom.and (OwnFrom.and (OwnFrom.and (own_map (own_wide hJ (by omega)) (onL f)) (ownFrom_below (Nat.le_refl _) (by omega))) (ownFrom_size _ _)) (Own.from (boxed_own _ _ _) _))
    (fun c => OwnFrom.and (ownFrom_pure _ _) (own_map (own_wide hJx (by omega)) (onL f)))
    ⟨⟨⟨j1, hWV⟩, Nat.le_refl _⟩, Y1⟩
    (fun q a' X => ∃ Bx, V.heap.size ≤ Bx ∧ Two X Bx q.1.1 q.1.2 ∧ a' = { tmps := #[.func (.yield l) #[] #[], ptr (h + 1), ptr h, ptr W.heap.size, ptr Bx, undef, undef, rct x y a b, .func (.func 63) #[] #[ptr (W.heap.size + 1)], cel q.1.1 q.1.2, undef, undef, undef, undef, undef, undef, undef, undef, undef, undef, undef, undef, undef, undef, undef, undef], defers := [] })
    (fun q a' _ X Y row hs hg hr => by obtain ⟨Bx, e1, e2, e3⟩ := hs; exact ⟨Bx, e1, e2.own hg (fun r e => (hr r e).2), e3⟩)
    ?assign ?body ?done ?stop
  case assign =>
    rintro l' pre q X K ⟨⟨⟨hJX, hBX⟩, hzX⟩, bY⟩ hK
    have hlY := bY.lt
    have hsX := hBX.size
    gi_wp2
    exact hK _ _ ((KeepsOthers.alloc _ _).from _) (Below.heap_alloc _ _ _ (by omega)) ⟨⟨⟨own_below hJ hJX (box1 _ _), hBX.alloc (by omega) _⟩, by simp; omega⟩, bY.alloc _⟩ ⟨X.heap.size, by omega, Two.newAt rfl, rfl⟩
  case body =>
    rintro l' pre q a' X hl' ⟨r, hr⟩ ⟨⟨⟨hJX, hBX⟩, hzX⟩, bY⟩ ⟨Bx, hBx, bX, rfl⟩ hlt
    have hsX := hBX.size
    have bP := boxed_upto hP hBX (by omega)
    have hwX := hw.upto hBX hbl
    have hne := lat_some X
    obtain ⟨d0, d1⟩ := bX.lat
    have c0 : ∀ n : Lat X, n.w.cell? ⟨h, 0, none⟩ = some (ptr p) := fun n => (n.h.cell (p := ⟨h, 0, none⟩) bP.lt).trans bP.cell
    have c6 : ∀ n : Lat X, n.w.cell? ⟨p, 1, none⟩ = some (.map (some bm)) := fun n => (n.h.cell (p := ⟨p, 1, none⟩) (Nat.lt_of_lt_of_le hpl hBX.size)).trans ((hBX.cell (p := ⟨p, 1, none⟩) hpl).trans hc)
    have hlook : ∀ n : Lat X, (Instr.lookup 60 (.map (some bm)) (cel q.1.1 q.1.2) true).run Try.prog n.w = .ok (.tuple #[.int .i64 ((f q.1.1 q.1.2).getD 0), .bool (f q.1.1 q.1.2).isSome]) n.w := fun n => (hwX.upto n.h hwX.lt).look q.2.1 q.2.2
    have hlen : (onL f pre).length < N := Nat.lt_of_le_of_lt (onL_len f pre) hlt
    have hon := onL_snoc f pre q
    cases hs : f q.1.1 q.1.2 with
    | none =>
      rw [hs] at hlook hon
      have HJ := hide hJX
      have Hon := hide hon
      clear hJX hs hon
      simp only [Option.getD_none, Option.isSome_none] at hlook
      gi_wp2_with fail
      refine wpIn_region_lat (by kernel_rfl) (by kernel_rfl) (by kernel_rfl) ?_
      repeat (refine wpQuietIn_step (fun _ _ _ _ => trivial) (fun K hK => ?_); go_simp; refine hK _ ?_; clear hK K)
      refine wpQuietIn_nil ?_
      rintro _ ⟨n1, rfl⟩
      gi_wp2_with fail
      refine ⟨fun f h => (by cases h), ?_⟩
      gi_wp2_with fail
      refine ⟨(keeps_below n1.h).from _, kB_below n1.h (by omega), ⟨⟨?_, hBX.trans (n1.h.mono (by omega))⟩, Nat.le_trans hzX n1.h.size⟩, boxed_upto bY n1.h bY.lt⟩
      rw [Hon.out]
      simp only [Option.toList_none, List.append_nil]
      exact own_below hJ HJ.out n1.h
    | some i =>
      rw [hs] at hlook hon
      have HJ := hide hJX
      have Hon := hide hon
      have HY := hide hY
      clear hJX hs hon hY
      simp only [Option.getD_some, Option.isSome_some] at hlook
      gi_wp2_with fail
      refine wpIn_region_lat (by kernel_rfl) (by kernel_rfl) (by kernel_rfl) ?_
      repeat (refine wpQuietIn_step (fun _ _ _ _ => trivial) (fun K hK => ?_); go_simp; refine hK _ ?_; clear hK K)
      refine wpQuietIn_nil ?_
      rintro _ ⟨n1, rfl⟩
      have bY1 := boxed_upto bY n1.h bY.lt
      have cY := bY1.cell
      obtain ⟨fn, tmps, asg, bd, hy, hR⟩ := HY.out (onL f pre) i n1.w (own_below hJ HJ.out n1.h) hlen
      dsimp only [encI] at hy
      gi_wp2_with fail
      refine ⟨fun h => (by cases h), ?_⟩
      refine (round_any _ hR).mono ?_
      rintro e Y ⟨hk, (⟨rfl, hJ3, hk3⟩ | ⟨rfl, hJx3⟩)⟩
      · have HJ3 := hide hJ3
        clear hJ3 hR hy
        have k1 : Keep W.heap.size X Y := (Keep.of_below n1.h).trans hk
        gi_wp2_with fail
        refine ⟨(k1.mono (by omega)).from, k1.2 _ (by omega) (by omega), ⟨⟨?_, (hBX.trans (n1.h.mono (by omega))).trans hk3⟩, Nat.le_trans hzX k1.1⟩, k1.at (Nat.le_refl _) bY⟩
        rw [Hon.out]
        exact HJ3.out
      · have HJ3 := hide hJx3
        clear hJx3 hR hy
        have k1 : Keep W.heap.size X Y := (Keep.of_below n1.h).trans hk
        gi_wp2_with fail
        refine ⟨(k1.mono (by omega)).from, rfl, ?_⟩
        rw [Hon.out]
        exact HJ3.out
  case done =>
    rintro D xs X hD rfl ⟨⟨⟨hJX, hBX⟩, hzX⟩, bY⟩ hK
    have HE := hide (hJ _ _ _ (some D) hJX (grownBy_putObj' X D (.deferred none)) (fun r e => by cases e; exact ⟨by omega, _, hK, rfl⟩))
    clear hJX
    gi_wp2_with fail
    refine ⟨by simp, .inl ⟨_, _, rfl, run_takeDeferred hK, ?_⟩⟩
    exact ⟨.tuple #[], by simp [results, Try.f60, go_sem], ⟨_, rfl⟩, .inl ⟨_, rfl, HE.out⟩⟩
  case stop =>
    rintro D c pre X hD hpre ⟨rfl, hJX⟩ hK
    have HE := hide (hJx _ _ _ (some D) hJX (grownBy_putObj' X D (.deferred none)) (fun r e => by cases e; exact ⟨by omega, _, hK, rfl⟩))
    clear hJX
    gi_wp2
    refine ⟨by simp, .inl ⟨_, _, rfl, run_takeDeferred hK, ?_⟩⟩
    exact ⟨.tuple #[], by simp [results, Try.f60, go_sem], ⟨_, rfl⟩, .inr ⟨_, onL_pre f hpre, HE.out⟩⟩
end Go.Proofs.Ytkodeopkgmichaa
