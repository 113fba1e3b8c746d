/-
  Whether a building stands on one of a foot's cells.
-/
import Derived.Test.YtekpamilcpeanaaDoorCellsSeq
import Derived.Test.YtekpamilcpeanaaDoorSearch
namespace Go.Proofs.YtekpamilcpeanaaDoor
open Go.RowKit Go.Shelf
set_option linter.unusedVariables false
attribute [local go_sem] Oper.semAt_some
abbrev rct (x y a b : Int) : Value := .agg #[.int .i64 x, .int .i64 y, .int .i64 a, .int .i64 b]
abbrev ptr (p : Nat) : Value := .pointer (some ⟨p, 0, none⟩)
set_option maxHeartbeats 1000000 in
theorem cells_any (x y a b : Int) (w : World) :
    Calls Tryd.prog 65 #[rct x y a b] w fun e w' => e = .returned (.func (.func 84) #[] #[ptr w.heap.size]) ∧ w' = w.alloc (.cells #[.int .i64 x, .int .i64 y, .int .i64 a, .int .i64 b] 67) := by
  go_enter Tryd.func65, Tryd.ntmps65
  go_wp2_with fail
  go_ret
  exact ⟨rfl, rfl⟩
theorem keeps_below {W W' : World} (h : Below W.heap.size W W') : KeepsOthers W W' := ⟨h.size, fun k o hk _ => (h.block k (Array.getElem?_eq_some_iff.1 hk).1).trans hk⟩
theorem Four.upto {n₀ : Nat} {W W' : World} {k : Nat} {x y a b : Int} (h : Four W k x y a b) (hB : Below n₀ W W') (hk : k < n₀) : Four W' k x y a b :=
  ⟨⟨(hB.cell (p := ⟨k, 0, none⟩) hk).trans h.1.1, (hB.cell (p := ⟨k, 1, none⟩) hk).trans h.1.2.1, (hB.cell (p := ⟨k, 2, none⟩) hk).trans h.1.2.2.1, (hB.cell (p := ⟨k, 3, none⟩) hk).trans h.1.2.2.2⟩,
   ⟨(hB.frozen (p := ⟨k, 0, none⟩) hk).trans h.2.1.1, (hB.frozen (p := ⟨k, 1, none⟩) hk).trans h.2.1.2.1, (hB.frozen (p := ⟨k, 2, none⟩) hk).trans h.2.1.2.2.1, (hB.frozen (p := ⟨k, 3, none⟩) hk).trans h.2.1.2.2.2⟩, Nat.lt_of_lt_of_le h.2.2 hB.size⟩
theorem boxed_upto {n₀ : Nat} {W W' : World} {k : Nat} {t : TypeId} {v : Value} (h : Boxed W k t v) (hB : Below n₀ W W') (hk : k < n₀) : Boxed W' k t v := (hB.block k hk).trans h
theorem Two.own {W W' : World} {row : Option Nat} {k : Nat} {u v : Int} (h : Two W k u v) (hg : W.grownBy W' row) (hr : ∀ r, row = some r → ∃ o : Obj, W.heap[r]? = some o ∧ o.isCells = false) : Two W' k u v :=
  ⟨⟨cell_kept h.1.1 hg hr, cell_kept h.1.2 hg hr⟩, ⟨(frozen_kept h.1.1 hg hr).trans h.2.1.1, (frozen_kept h.1.2 hg hr).trans h.2.1.2⟩, Nat.lt_of_lt_of_le h.2.2 hg.size⟩
theorem Who.upto {w w' : World} {b n : Nat} {f : Int → Int → Option Int} {N : Nat} (h : Who w b n f) (hB : Below N w w') (hb : b < N) : Who w' b n f := by
  obtain ⟨D, ⟨es, clock, h1, h2⟩, h3⟩ := h
  exact ⟨D, ⟨es, clock, (hB.block b hb).trans h1, h2⟩, h3⟩
def takenB (f : Int → Int → Option Int) (x y a b : Int) : Bool := (allC x y a b).any (fun q => (f q.1.1 q.1.2).isSome)
abbrev WT (w : World) (p : Nat) (x y a b : Int) : World := (((w.alloc (.cells #[ptr p] 40)).alloc (.cells #[.int .i64 x, .int .i64 y, .int .i64 a, .int .i64 b] 67)).alloc (.cells #[.bool false] 4)).alloc (.cells #[.int .i64 x, .int .i64 y, .int .i64 a, .int .i64 b] 67)
theorem wt_below (w : World) (p : Nat) (x y a b : Int) : Below w.heap.size w (WT w p x y a b) := bt (box2 _ _ _) (box2 _ _ _)
theorem wt_size (w : World) (p : Nat) (x y a b : Int) : (WT w p x y a b).heap.size = w.heap.size + 4 := by simp
theorem wt_ptr (w : World) (p : Nat) (x y a b : Int) : Boxed (WT w p x y a b) w.heap.size 40 (ptr p) := (((Boxed.new w 40 (ptr p)).alloc _).alloc _).alloc _
theorem wt_res (w : World) (p : Nat) (x y a b : Int) : Boxed (WT w p x y a b) (w.heap.size + 1 + 1) 4 (.bool false) := by
  have := (Boxed.new ((w.alloc (.cells #[ptr p] 40)).alloc (.cells #[.int .i64 x, .int .i64 y, .int .i64 a, .int .i64 b] 67)) 4 (.bool false)).alloc (.cells #[.int .i64 x, .int .i64 y, .int .i64 a, .int .i64 b] 67)
  simpa using this
theorem wt_own (w : World) (p : Nat) (x y a b : Int) : Four (WT w p x y a b) (w.heap.size + 1 + 1 + 1) x y a b := by
  have := cells4 (w := ((w.alloc (.cells #[ptr p] 40)).alloc (.cells #[.int .i64 x, .int .i64 y, .int .i64 a, .int .i64 b] 67)).alloc (.cells #[.bool false] 4)) (a := .int .i64 x) (b := .int .i64 y) (c := .int .i64 a) (d := .int .i64 b) (t := 67) (Below.refl _ _)
  simpa [Four] using this
set_option maxRecDepth 100000 in
set_option maxHeartbeats 2000000 in
theorem taken_any (p bm n : Nat) (f : Int → Int → Option Int) (x y a b : Int) (w : World) (hc : w.cell? ⟨p, 6, none⟩ = some (.map (some bm))) (hw : Who w bm n f) :
    Calls Tryd.prog 63 #[ptr p, rct x y a b] w fun e w' => e = .returned (.bool (takenB f x y a b)) ∧ Below w.heap.size w w' := by
  refine (callsIn_wide (n := 10)).1 ?_
  refine callsIn_of_wp_marks Tryd.func63 rfl trivial ?_ rfl
  simp only [Tryd.ntmps63, List.size_toArray, List.length_cons, List.length_nil, Nat.reduceAdd, Nat.reduceSub, Array.replicate_succ, Array.replicate_zero, List.push_toArray, List.append_toArray, List.nil_append, List.cons_append]
  gi_wp2_with fail
  refine ⟨trivial, ?_⟩
  refine (callsIn_wide.2 (cells_any _ _ _ _ _)).mono ?_
  rintro e w1 ⟨rfl, rfl⟩
  gi_wp2_with fail
  have HB0 := wt_below w p x y a b
  have hsz := wt_size w p x y a b
  have P0 := wt_ptr w p x y a b
  have R0 := wt_res w p x y a b
  have F3 := wt_own w p x y a b
  unfold WT at HB0 hsz P0 R0 F3
  obtain ⟨W0, hW0⟩ : ∃ W0, (((w.alloc (.cells #[ptr p] 40)).alloc (.cells #[.int .i64 x, .int .i64 y, .int .i64 a, .int .i64 b] 67)).alloc (.cells #[.bool false] 4)).alloc (.cells #[.int .i64 x, .int .i64 y, .int .i64 a, .int .i64 b] 67) = W0 := ⟨_, rfl⟩
  rw [hW0] at HB0 hsz P0 R0 F3 ⊢
  clear hW0
  have hbl := hw.lt
  have hpl := World.block_lt_of_cell? w _ hc
  refine wpIn_rangeFunc_ownH rfl (by omega) (gf := 84) (lb := #[ptr (w.heap.size + 1 + 1 + 1)]) rfl trivial (enters_of Tryd.func84 (by kernel_rfl) rfl)
    (cells_stops (10 - 1) (w.heap.size + 1 + 1 + 1) (b.toNat * a.toNat + 1) x y a b W0 F3 (fun _ => by omega)) kB_t (kB_b (by omega)) (Below.refl _ _) (fun _ => rfl)
    (fun pre W => (∀ q ∈ pre, (f q.1.1 q.1.2).isSome = false) ∧ Below (w.heap.size + 1 + 1 + 1 + 1) W0 W)
    (fun c pre W => ((c = .ret ∧ ∃ q ∈ pre, (f q.1.1 q.1.2).isSome = true) ∧ Boxed W (w.heap.size + 1 + 1) 4 (.bool true)) ∧ Below w.heap.size w W)
    (OwnFrom.and (ownFrom_pure _ _) (ownFrom_below (by omega) (by omega)))
    (fun c => OwnFrom.and (OwnFrom.and (ownFrom_pure _ _) (Own.from (boxed_own _ _ _) _)) (ownFrom_below (Nat.le_refl _) (by omega)))
    ⟨fun q h => by simp at h, Below.refl _ _⟩
    (fun q a' W => ∃ Bx, w.heap.size + 1 + 1 + 1 + 1 ≤ Bx ∧ Two W Bx q.1.1 q.1.2 ∧ a' = { tmps := #[ptr p, rct x y a b, ptr w.heap.size, ptr (w.heap.size + 1), ptr (w.heap.size + 1 + 1), ptr Bx, undef, undef, rct x y a b, .func (.func 84) #[] #[ptr (w.heap.size + 1 + 1 + 1)], cel q.1.1 q.1.2, undef, undef, undef, undef, undef, undef, undef, undef, undef, undef], defers := [] })
    (fun q a' _ X Y row hs hg hr => by obtain ⟨Bx, e1, e2, e3⟩ := hs; exact ⟨Bx, e1, e2.own hg (fun r e => (hr r e).2), e3⟩)
    ?assign ?body ?done ?stop
  case assign =>
    rintro l pre q W K ⟨hp, hB⟩ hK
    have hsB := hB.size
    gi_wp2
    exact hK _ _ ((KeepsOthers.alloc _ _).from _) (Below.heap_alloc _ _ _ (by omega)) ⟨hp, hB.alloc (by omega) _⟩ ⟨W.heap.size, by omega, Two.newAt rfl, rfl⟩
  case body =>
    rintro l pre q a' W hl ⟨r, hr⟩ ⟨hp, hB⟩ ⟨Bx, hBx, bX, rfl⟩ hlt
    have hsB := hB.size
    have bP := boxed_upto P0 hB (by omega)
    have bR := boxed_upto R0 hB (by omega)
    have hne := lat_some W
    have HBW : Below w.heap.size w W := HB0.trans (hB.mono (by omega))
    have hwW := hw.upto HBW hbl
    obtain ⟨d0, d1⟩ := bX.lat
    have c0 : ∀ n : Lat W, n.w.cell? ⟨w.heap.size, 0, none⟩ = some (ptr p) := fun n => (n.h.cell (p := ⟨w.heap.size, 0, none⟩) bP.lt).trans bP.cell
    have c6 : ∀ n : Lat W, n.w.cell? ⟨p, 6, none⟩ = some (.map (some bm)) := fun n => (n.h.cell (p := ⟨p, 6, none⟩) (Nat.lt_of_lt_of_le hpl HBW.size)).trans ((HBW.cell (p := ⟨p, 6, none⟩) hpl).trans hc)
    have hlook : ∀ n : Lat W, (Instr.lookup 73 (.map (some bm)) (cel q.1.1 q.1.2) true).run Tryd.prog n.w = .ok (.tuple #[.int .i64 ((f q.1.1 q.1.2).getD 0), .bool (f q.1.1 q.1.2).isSome]) n.w := fun n => (hwW.upto n.h hwW.lt).look q.2.1 q.2.2
    obtain ⟨z, hz⟩ : ∃ z, (f q.1.1 q.1.2).getD 0 = z := ⟨_, rfl⟩
    rw [hz] at hlook
    cases hs : (f q.1.1 q.1.2).isSome
    · rw [hs] at hlook
      have Hp := hide hp
      have Hs := hide hs
      clear hp hs hz
      gi_wp2_with fail
      refine wpIn_region_lat (by kernel_rfl) (by kernel_rfl) (by kernel_rfl) ?_
      repeat (refine wpQuietIn_step (fun _ _ _ _ => trivial) (fun K hK => ?_); go_simp; refine hK _ ?_; clear hK K)
      refine wpQuietIn_nil ?_
      rintro _ ⟨n, rfl⟩
      gi_wp2_with fail
      refine ⟨(keeps_below n.h).from _, kB_below n.h (by omega), ⟨fun q' hq' => ?_, hB.trans (n.h.mono (by omega))⟩⟩
      rcases List.mem_append.1 hq' with h | h
      · exact Hp.out q' h
      · simp at h; subst h; exact Hs.out
    · rw [hs] at hlook
      have Hs := hide hs
      clear hp hs hz
      gi_wp2_with fail
      refine wpIn_region_lat (by kernel_rfl) (by kernel_rfl) (by kernel_rfl) ?_
      repeat (refine wpQuietIn_step (fun _ _ _ _ => trivial) (fun K hK => ?_); go_simp; refine hK _ ?_; clear hK K)
      refine wpQuietIn_nil ?_
      rintro _ ⟨n, rfl⟩
      have bRn := boxed_upto bR n.h bR.lt
      have cR := bRn.cell
      have fR := bRn.frozen
      gi_wp2_with fail
      exact ⟨((keeps_below n.h).trans (KeepsOthers.setCell _ _ _)).from _, ⟨⟨rfl, q, by simp, Hs.out⟩, bRn.set _⟩, (bt HBW n.h).setCell (p := ⟨w.heap.size + 1 + 1, 0, none⟩) (by simp; omega) _⟩
  case done =>
    rintro D xs W hD rfl ⟨hp, hB⟩ hK
    have hsW := hB.size
    have HBW : Below w.heap.size w W := HB0.trans (hB.mono (by omega))
    have bR := boxed_upto R0 hB (by omega)
    have cR := bR.cell
    have fR := bR.frozen
    have ht : takenB f x y a b = false := by
      rw [takenB, Bool.eq_false_iff]
      intro h
      obtain ⟨q, h1, h2⟩ := List.any_eq_true.1 h
      rw [hp q h1] at h2
      cases h2
    have Ht := hide ht
    clear ht hp
    gi_wp2_with fail
    have hK3 := (KeepsOthers.setCell _ ⟨w.heap.size + 1 + 1, 0, none⟩ (.bool false)).same D _ hK rfl
    refine ⟨by simp, .inl ⟨_, _, rfl, run_takeDeferred hK3, ?_⟩⟩
    have hc5 := cell_kept (bR.set (.bool false)).cell (grownBy_putObj' _ D (.deferred none)) (fun r e => by cases e; exact ⟨_, hK3, rfl⟩)
    refine ⟨.bool false, ?_, by rw [Ht.out], (HBW.setCell (p := ⟨w.heap.size + 1 + 1, 0, none⟩) (by simp; omega) _).trans (belowK_b (w := w) (Nat.le_refl _) _ D _ _ (by omega) hK3 rfl rfl)⟩
    simp [results, Tryd.f63, go_sem, hc5]
  case stop =>
    rintro D c pre W hD hpre ⟨⟨⟨rfl, q, hq, hs⟩, bR⟩, hB⟩ hK
    have cR := bR.cell
    have ht : takenB f x y a b = true := List.any_eq_true.2 ⟨q, hpre.subset hq, hs⟩
    have Ht := hide ht
    clear hs ht
    gi_wp2
    refine ⟨by simp, .inl ⟨_, _, rfl, run_takeDeferred hK, ?_⟩⟩
    have hc5 := cell_kept bR.cell (grownBy_putObj' _ D (.deferred none)) (fun r e => by cases e; exact ⟨_, hK, rfl⟩)
    refine ⟨.bool true, ?_, by rw [Ht.out], hB.trans (belowK_b (w := w) (Nat.le_refl _) W D _ _ (by omega) hK rfl rfl)⟩
    simp [results, Tryd.f63, go_sem, hc5]
end Go.Proofs.YtekpamilcpeanaaDoor
