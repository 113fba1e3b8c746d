/-
  phalanxlaw03.CellGoes, walked.
-/
import Derived.Test.YtebapnoaegdejaaDoorCellsSeq
import Derived.Test.YtebapnoaegdejaaDoorAwake
namespace Go.Proofs.YtebapnoaegdejaaDoor
open Go.RowKit Go.Shelf
set_option linter.unusedVariables false
attribute [local go_sem] Oper.semAt_some
set_option maxHeartbeats 1000000 in
theorem cells_any (x y a b : Int) (w : World) :
    Calls Tryd.prog 39 #[.agg #[.int .i64 x, .int .i64 y, .int .i64 a, .int .i64 b]] w fun e w' => e = .returned (.func (.func 52) #[] #[.pointer (some ⟨w.heap.size, 0, none⟩)]) ∧ w' = w.alloc (.cells #[.int .i64 x, .int .i64 y, .int .i64 a, .int .i64 b] 34) := by
  go_enter Tryd.func39, Tryd.ntmps39
  go_wp2_with fail
  go_ret
  exact ⟨rfl, rfl⟩
theorem func_nil (p : Option Addr) (w : World) : Sem.run Tryd.prog (binOp BinOp.eql 48 (.func (.func 52) #[] #[.pointer p]) .nilFunc) w = .ok (.bool false) w := by kernel_rfl
theorem keeps_below {W W' : World} (h : Below W.heap.size W W') : KeepsOthers W W' := ⟨h.size, fun k o hk _ => (h.block k (Array.getElem?_eq_some_iff.1 hk).1).trans hk⟩
abbrev W9 (w : World) (x y a b m : Int) : World := ((((w.alloc (.cells #[.int .i64 x, .int .i64 y, .int .i64 a, .int .i64 b] 34)).alloc (.cells #[.int .u8 m] 5)).alloc (.cells #[.bool false] 4)).alloc (.cells #[.int .i64 x, .int .i64 y, .int .i64 a, .int .i64 b] 34)).alloc (.cells #[.int .i64 0] 3)
theorem w9_below (w : World) (x y a b m : Int) : Below w.heap.size w (W9 w x y a b m) := bt (bt (box2 _ _ _) (box2 _ _ _)) (box1 _ _)
theorem w9_size (w : World) (x y a b m : Int) : (W9 w x y a b m).heap.size = w.heap.size + 5 := by simp
theorem w9_rect (w : World) (x y a b m : Int) : Four (W9 w x y a b m) w.heap.size x y a b := cells4 (bt (bt (box1 _ _) (box2 _ _ _)) (box1 _ _))
theorem w9_own (w : World) (x y a b m : Int) : Four (W9 w x y a b m) (w.heap.size + 1 + 1 + 1) x y a b := by
  have := cells4 (w := ((w.alloc (.cells #[.int .i64 x, .int .i64 y, .int .i64 a, .int .i64 b] 34)).alloc (.cells #[.int .u8 m] 5)).alloc (.cells #[.bool false] 4)) (a := .int .i64 x) (b := .int .i64 y) (c := .int .i64 a) (d := .int .i64 b) (t := 34) (box1 _ (.cells #[.int .i64 0] 3))
  simpa [Four] using this
theorem w9_most (w : World) (x y a b m : Int) : Boxed (W9 w x y a b m) (w.heap.size + 1) 5 (.int .u8 m) := by
  have := (((Boxed.new (w.alloc (.cells #[.int .i64 x, .int .i64 y, .int .i64 a, .int .i64 b] 34)) 5 (.int .u8 m)).alloc (.cells #[.bool false] 4)).alloc (.cells #[.int .i64 x, .int .i64 y, .int .i64 a, .int .i64 b] 34)).alloc (.cells #[.int .i64 0] 3)
  simpa using this
theorem w9_res (w : World) (x y a b m : Int) : Boxed (W9 w x y a b m) (w.heap.size + 1 + 1) 4 (.bool false) := by
  have := ((Boxed.new ((w.alloc (.cells #[.int .i64 x, .int .i64 y, .int .i64 a, .int .i64 b] 34)).alloc (.cells #[.int .u8 m] 5)) 4 (.bool false)).alloc (.cells #[.int .i64 x, .int .i64 y, .int .i64 a, .int .i64 b] 34)).alloc (.cells #[.int .i64 0] 3)
  simpa using this
theorem w9_n (w : World) (x y a b m : Int) : Boxed (W9 w x y a b m) (w.heap.size + 1 + 1 + 1 + 1) 3 (.int .i64 0) := by
  have := Boxed.new ((((w.alloc (.cells #[.int .i64 x, .int .i64 y, .int .i64 a, .int .i64 b] 34)).alloc (.cells #[.int .u8 m] 5)).alloc (.cells #[.bool false] 4)).alloc (.cells #[.int .i64 x, .int .i64 y, .int .i64 a, .int .i64 b] 34)) 3 (.int .i64 0)
  simpa using this
theorem Four.upto {n₀ : Nat} {W W' : World} {k : Nat} {x y a b : Int} (h : Four W k x y a b) (hB : Below n₀ W W') (hk : k < n₀) : Four W' k x y a b :=
  ⟨⟨(hB.cell (p := ⟨k, 0, none⟩) hk).trans h.1.1, (hB.cell (p := ⟨k, 1, none⟩) hk).trans h.1.2.1, (hB.cell (p := ⟨k, 2, none⟩) hk).trans h.1.2.2.1, (hB.cell (p := ⟨k, 3, none⟩) hk).trans h.1.2.2.2⟩,
   ⟨(hB.frozen (p := ⟨k, 0, none⟩) hk).trans h.2.1.1, (hB.frozen (p := ⟨k, 1, none⟩) hk).trans h.2.1.2.1, (hB.frozen (p := ⟨k, 2, none⟩) hk).trans h.2.1.2.2.1, (hB.frozen (p := ⟨k, 3, none⟩) hk).trans h.2.1.2.2.2⟩, Nat.lt_of_lt_of_le h.2.2 hB.size⟩
theorem boxed_upto {n₀ : Nat} {W W' : World} {k : Nat} {t : TypeId} {v : Value} (h : Boxed W k t v) (hB : Below n₀ W W') (hk : k < n₀) : Boxed W' k t v := (hB.block k hk).trans h
theorem u8_range {m : Int} (h : (Lit.int .u8 m).wf = true) : 0 ≤ m ∧ m ≤ 255 := by
  simp only [Lit.wf, Bool.and_eq_true, decide_eq_true_iff] at h
  have e0 : IntKind.u8.min = 0 := by decide
  have e1 : IntKind.u8.max = 255 := by decide
  omega
theorem wrap_far {n : Int} (h0 : -9223372036854775808 ≤ n) (h1 : n ≤ 9223372036854775807) : IntKind.i64.wrap n = n := by rw [IntKind.wrap_i64]; omega
theorem area_range {a b : Int} (a0 : 1 ≤ a) (a1 : a ≤ 1048576) (b0 : 1 ≤ b) (b1 : b ≤ 1048576) : 1 ≤ a * b ∧ a * b ≤ 1099511627776 := by
  refine ⟨?_, ?_⟩
  · have := Int.mul_le_mul a0 b0 (by omega) (by omega); omega
  · have := Int.mul_le_mul a1 b1 (by omega) (by omega); omega
theorem allC_len {x y a b : Int} (hm : may x y a b = true) : ((allC x y a b).length : Int) = a * b := by
  obtain ⟨_, ⟨a0, a1⟩, ⟨b0, b1⟩, _⟩ := (may_iff _ _ _ _).1 hm
  rw [allC, if_pos hm, upto_length, Int.natCast_mul, Int.toNat_of_nonneg (by omega), Int.toNat_of_nonneg (by omega), Int.mul_comm]
theorem allC_get {x y a b : Int} (hm : may x y a b = true) {i : Nat} (hi : i < (allC x y a b).length) : (allC x y a b)[i] = (x + (i : Int) % a, y + (i : Int) / a) := by
  obtain ⟨_, ⟨a0, a1⟩, _⟩ := (may_iff _ _ _ _).1 hm
  simp only [allC, if_pos hm, upto, List.getElem_map, List.getElem_range, cellAt, Int.natCast_emod, Int.natCast_ediv, Int.toNat_of_nonneg (show 0 ≤ a by omega)]
theorem next_ok {x y a b : Int} {pre : List (Int × Int)} {q : Int × Int} (h : pre <+: allC x y a b) (hm : may x y a b = true) (hl : (pre.length : Int) < a * b) (h1 : q.1 = x + (pre.length : Int) % a) (h2 : q.2 = y + (pre.length : Int) / a) : pre ++ [q] <+: allC x y a b := by
  have hlen : pre.length < (allC x y a b).length := by have := allC_len hm; omega
  rw [List.prefix_iff_eq_take] at h ⊢
  rw [List.length_append, List.length_singleton, List.take_succ_eq_append_getElem hlen, ← h, allC_get hm hlen, ← h1, ← h2]
theorem next_may {x y a b : Int} {pre : List (Int × Int)} {q : Int × Int} (h : pre ++ [q] <+: allC x y a b) : may x y a b = true ∧ (pre.length : Int) < a * b ∧ q.1 = x + (pre.length : Int) % a ∧ q.2 = y + (pre.length : Int) / a := by
  have hm : may x y a b = true := by
    cases e : may x y a b
    · rw [allC, e] at h; simp at h
    · rfl
  have hlen : pre.length < (allC x y a b).length := by have := h.length_le; simp at this; omega
  have hq : (allC x y a b)[pre.length] = q := by
    have := h.getElem (i := pre.length) (by simp)
    rw [← this]; simp
  rw [allC_get hm hlen] at hq
  refine ⟨hm, by have := allC_len hm; omega, ?_, ?_⟩
  · rw [← hq]
  · rw [← hq]
theorem Two.own {W W' : World} {row : Option Nat} {k : Nat} {u v : Int} (h : Two W k u v) (hg : W.grownBy W' row) (hr : ∀ r, row = some r → ∃ o : Obj, W.heap[r]? = some o ∧ o.isCells = false) : Two W' k u v :=
  ⟨⟨cell_kept h.1.1 hg hr, cell_kept h.1.2 hg hr⟩, ⟨(frozen_kept h.1.1 hg hr).trans h.2.1.1, (frozen_kept h.1.2 hg hr).trans h.2.1.2⟩, Nat.lt_of_lt_of_le h.2.2 hg.size⟩
set_option maxRecDepth 100000 in
set_option maxHeartbeats 4000000 in
theorem goes_walk (x y a b m : Int) (w : World) (hm : 0 ≤ m ∧ m ≤ 255) (ho : Offs w) :
    Calls Tryd.prog 7 #[.agg #[.int .i64 x, .int .i64 y, .int .i64 a, .int .i64 b], .int .u8 m] w fun e w' => e = .returned (.bool true) ∧ Below w.heap.size w w' := by
  refine (callsIn_wide (n := 10)).1 ?_
  refine callsIn_of_wp_marks Tryd.func7 rfl trivial ?_ rfl
  simp only [Tryd.ntmps7, List.size_toArray, List.length_cons, List.length_nil, Nat.reduceAdd, Nat.reduceSub, Array.replicate_succ, Array.replicate_zero, List.push_toArray, List.append_toArray, List.nil_append, List.cons_append]
  gi_wp2_with fail
  refine ⟨trivial, ?_⟩
  refine (callsIn_wide.2 (cells_any _ _ _ _ _)).mono ?_
  rintro e w1 ⟨rfl, rfl⟩
  have hfn := func_nil
  gi_wp2_with fail
  clear hfn
  have HB0 := w9_below w x y a b m
  have hsz := w9_size w x y a b m
  have F0 := w9_rect w x y a b m
  have F3 := w9_own w x y a b m
  have M0 := w9_most w x y a b m
  have R0 := w9_res w x y a b m
  have N0 := w9_n w x y a b m
  unfold W9 at HB0 hsz F0 F3 M0 R0 N0
  obtain ⟨W0, hW0⟩ : ∃ W0, ((((w.alloc (.cells #[.int .i64 x, .int .i64 y, .int .i64 a, .int .i64 b] 34)).alloc (.cells #[.int .u8 m] 5)).alloc (.cells #[.bool false] 4)).alloc (.cells #[.int .i64 x, .int .i64 y, .int .i64 a, .int .i64 b] 34)).alloc (.cells #[.int .i64 0] 3) = W0 := ⟨_, rfl⟩
  rw [hW0] at HB0 hsz F0 F3 M0 R0 N0 ⊢
  clear hW0
  refine wpIn_rangeFunc_ownH rfl (by omega) (gf := 52) (lb := #[.pointer (some ⟨w.heap.size + 1 + 1 + 1, 0, none⟩)]) rfl trivial (enters_of Tryd.func52 (by kernel_rfl) rfl)
    (cells_stops (10 - 1) (w.heap.size + 1 + 1 + 1) (w.heap.size + 1 + 1 + 1 + 1) (b.toNat * a.toNat + 1) x y a b W0 (by omega) (by omega) F3 (fun _ => by omega)) belowK_t (belowK_b (by omega)) (Below.refl _ _) (fun _ => rfl)
    (fun pre W => ((pre <+: allC x y a b ∧ (pre.length : Int) ≤ m) ∧ Boxed W (w.heap.size + 1 + 1 + 1 + 1) 3 (.int .i64 pre.length)) ∧ Below (w.heap.size + 1 + 1 + 1 + 1) W0 W)
    (fun c pre W => (c = .ret ∧ (pre <+: allC x y a b → Boxed W (w.heap.size + 1 + 1) 4 (.bool true))) ∧ Below w.heap.size w W)
    (OwnFrom.and (OwnFrom.and (ownFrom_pure _ _) (Own.from (boxed_own _ _ _) _)) (ownFrom_below (by omega) (by omega)))
    (fun c => OwnFrom.and (fun s X Y row hs hg hr => ⟨hs.1, fun hp => boxed_own (w.heap.size + 1 + 1) 4 (fun (_ : Unit) => Value.bool true) () X Y row (hs.2 hp) hg (fun r e => (hr r e).2)⟩) (ownFrom_below (Nat.le_refl _) (by omega)))
    ⟨⟨⟨⟨_, rfl⟩, hm.1⟩, N0⟩, Below.refl _ _⟩
    (fun q a' W => ∃ Bx, w.heap.size + 1 + 1 + 1 + 1 < Bx ∧ Two W Bx q.1 q.2 ∧ a' = { tmps := #[.agg #[.int .i64 x, .int .i64 y, .int .i64 a, .int .i64 b], .int .u8 m, .pointer (some ⟨w.heap.size, 0, none⟩), .pointer (some ⟨w.heap.size + 1, 0, none⟩), .pointer (some ⟨w.heap.size + 1 + 1, 0, none⟩), .func (.func 52) #[] #[.pointer (some ⟨w.heap.size + 1 + 1 + 1, 0, none⟩)], .pointer (some ⟨w.heap.size + 1 + 1 + 1 + 1, 0, none⟩), .pointer (some ⟨Bx, 0, none⟩), .agg #[.int .i64 x, .int .i64 y, .int .i64 a, .int .i64 b], .func (.func 52) #[] #[.pointer (some ⟨w.heap.size + 1 + 1 + 1, 0, none⟩)], .func (.func 52) #[] #[.pointer (some ⟨w.heap.size + 1 + 1 + 1, 0, none⟩)], .bool false, .func (.func 52) #[] #[.pointer (some ⟨w.heap.size + 1 + 1 + 1, 0, none⟩)], .agg #[.int .i64 q.1, .int .i64 q.2], undef, undef, undef, undef, undef, undef, undef, undef, undef, undef, undef, undef, undef, undef, undef, undef, undef, undef, undef, undef, undef, undef, undef, undef, undef, undef, undef, undef, undef, undef, undef, undef, undef, undef, undef, undef, undef, undef, undef, undef, undef, undef, undef, undef, undef, undef, undef, undef, undef, undef, undef, undef, undef, undef, undef, undef, undef, undef, undef, undef, undef, undef, undef, undef, undef, undef, undef, undef], defers := [] })
    (fun q a' _ X Y row hs hg hr => by obtain ⟨Bx, e1, e2, e3⟩ := hs; exact ⟨Bx, e1, e2.own hg (fun r e => (hr r e).2), e3⟩)
    ?assign ?body ?done ?stop
  case assign =>
    rintro l pre q W K ⟨⟨hp, bN⟩, hB⟩ hK
    gi_wp2
    exact hK _ _ ((KeepsOthers.alloc _ _).from _) ((Below.refl _ W).alloc (by have := hB.size; omega) _) ⟨⟨hp, bN.alloc _⟩, hB.alloc (by have := hB.size; omega) _⟩ ⟨W.heap.size, bN.lt, Two.newAt rfl, rfl⟩
  case body =>
    rintro l pre q a' W hl ⟨r, hr⟩ ⟨⟨⟨hp, hpm⟩, bN⟩, hB⟩ ⟨Bx, hBx, bX, rfl⟩ hlt
    have FR := F0.upto hB (by omega)
    have bM := boxed_upto M0 hB (by omega)
    have bR := boxed_upto R0 hB (by omega)
    have hne := lat_some W
    obtain ⟨c0, c1, c2, c3⟩ := FR.lat
    obtain ⟨d0, d1⟩ := bX.lat
    have n0 : ∀ n : Lat W, n.w.cell? ⟨w.heap.size + 1 + 1 + 1 + 1, 0, none⟩ = some (.int .i64 (pre.length : Int)) := fun n => (n.h.cell (p := ⟨w.heap.size + 1 + 1 + 1 + 1, 0, none⟩) bN.lt).trans bN.cell
    have HBW : Below w.heap.size w W := HB0.trans (hB.mono (by omega))
    have len0 : (0 : Int) ≤ (pre.length : Int) := by omega
    have len1 : (pre.length : Int) ≤ 255 := by omega
    cases hmay : may x y a b
    · gi_wp2_with fail
      refine wpIn_region_lat (by kernel_rfl) (by kernel_rfl) (by kernel_rfl) ?_
      repeat (refine wpQuietIn_step (fun _ _ _ _ => trivial) (fun K hK => ?_); go_simp; first | (refine hK _ ?_; clear hK K) | (apply Exists.intro; refine ⟨fun _ => ?_, hK _ ?_⟩; exact callsIn_lat (CallsIn.inRound l (callsIn_wide.2 (refmay_is _ hmay))); clear hK K))
      refine wpQuietIn_nil ?_
      rintro _ ⟨n, rfl⟩
      have bRn := boxed_upto bR n.h bR.lt
      have cR := bRn.cell
      have fR := bRn.frozen
      gi_wp2_with fail
      exact ⟨((keeps_below n.h).trans (KeepsOthers.setCell _ _ _)).from _, ⟨rfl, fun hp' => absurd (next_may hp') (by rw [hmay]; simp)⟩, (bt HBW n.h).setCell (p := ⟨w.heap.size + 1 + 1, 0, none⟩) (by simp; omega) _⟩
    · obtain ⟨⟨⟨x0, x1⟩, y0, y1⟩, ⟨a0, a1⟩, ⟨b0, b1⟩, _⟩ := (may_iff _ _ _ _).1 hmay
      have hP := area_range a0 a1 b0 b1
      have wP : IntKind.i64.wrap (a * b) = a * b := wrap_far (by omega) (by omega)
      have r0 := Int.emod_nonneg (pre.length : Int) (show a ≠ 0 by omega)
      have r1 := Int.emod_lt_of_pos (pre.length : Int) (show 0 < a by omega)
      have v0 : (0 : Int) ≤ (pre.length : Int) / a := Int.ediv_nonneg len0 (by omega)
      have v1 : (pre.length : Int) / a ≤ 255 := Int.le_trans (Int.ediv_le_self a len0) len1
      have ht : (pre.length : Int).tmod a = (pre.length : Int) % a := Int.tmod_eq_emod_of_nonneg len0
      have hd : (pre.length : Int).tdiv a = (pre.length : Int) / a := Int.tdiv_eq_ediv_of_nonneg len0
      have wX : IntKind.i64.wrap (x + (pre.length : Int) % a) = x + (pre.length : Int) % a := wrap_far (by omega) (by omega)
      have wY : IntKind.i64.wrap (y + (pre.length : Int) / a) = y + (pre.length : Int) / a := wrap_far (by omega) (by omega)
      have a00 : ¬ a = 0 := by omega
      have wV : IntKind.i64.wrap ((pre.length : Int) / a) = (pre.length : Int) / a := wrap_far (by omega) (by omega)
      have wM : IntKind.i64.wrap ((pre.length : Int) % a) = (pre.length : Int) % a := wrap_far (by omega) (by omega)
      by_cases h1 : a * b ≤ (pre.length : Int)
      · have hd1 := decide_eq_true h1
        gi_wp2_with fail
        refine wpIn_region_lat (by kernel_rfl) (by kernel_rfl) (by kernel_rfl) ?_
        repeat (refine wpQuietIn_step (fun _ _ _ _ => trivial) (fun K hK => ?_); go_simp; first | (refine hK _ ?_; clear hK K) | (apply Exists.intro; refine ⟨fun _ => ?_, hK _ ?_⟩; exact callsIn_lat (CallsIn.inRound l (callsIn_wide.2 (refmay_is _ hmay))); clear hK K))
        refine wpQuietIn_nil ?_
        rintro _ ⟨n, rfl⟩
        have bRn := boxed_upto bR n.h bR.lt
        have cR := bRn.cell
        have fR := bRn.frozen
        gi_wp2_with fail
        exact ⟨((keeps_below n.h).trans (KeepsOthers.setCell _ _ _)).from _, ⟨rfl, fun hp' => absurd (next_may hp') (by intro h; have := h.2.1; omega)⟩, (bt HBW n.h).setCell (p := ⟨w.heap.size + 1 + 1, 0, none⟩) (by simp; omega) _⟩
      · have hd1 := decide_eq_false h1
        by_cases h2 : q.1 = x + (pre.length : Int) % a
        · have hd2 : (q.1 != x + (pre.length : Int) % a) = false := by simp [h2]
          by_cases h3 : q.2 = y + (pre.length : Int) / a
          · have hd3 : (q.2 != y + (pre.length : Int) / a) = false := by simp [h3]
            have hnext := next_ok hp hmay (by omega) h2 h3
            gi_wp2_with fail
            refine wpIn_region_lat (by kernel_rfl) (by kernel_rfl) (by kernel_rfl) ?_
            repeat (refine wpQuietIn_step (fun _ _ _ _ => trivial) (fun K hK => ?_); go_simp; first | (refine hK _ ?_; clear hK K) | (apply Exists.intro; refine ⟨fun _ => ?_, hK _ ?_⟩; exact callsIn_lat (CallsIn.inRound l (callsIn_wide.2 (refmay_is _ hmay))); clear hK K))
            refine wpQuietIn_nil ?_
            rintro _ ⟨n, rfl⟩
            have bNn := boxed_upto bN n.h bN.lt
            have bMn := boxed_upto bM n.h bM.lt
            have bRn := boxed_upto bR n.h bR.lt
            have cN := bNn.cell
            have fN := bNn.frozen
            have cM := bMn.cell
            have cR := bRn.cell
            have fR := bRn.frozen
            have HBn := bt HBW n.h
            have hsn := n.h.size
            have hsW := hB.size
            clear c0 c1 c2 c3 d0 d1 n0 hd1 hd2 hd3 wP wX wY wV wM ht hd
            by_cases h4 : m < (pre.length : Int) + 1
            · gi_wp2_with fail
              refine ⟨trivial, ?_⟩
              refine (CallsIn.inRound l (callsIn_wide.2 (awake_any _ (ho.kept (HBn.setCell (p := ⟨w.heap.size + 1 + 1 + 1 + 1, 0, none⟩) (by simp; omega) _))))).mono ?_
              rintro e v ⟨rfl, hbv⟩
              have bR2 := bRn.other (show w.heap.size + 1 + 1 ≠ w.heap.size + 1 + 1 + 1 + 1 by omega) (.int .i64 ((pre.length : Int) + 1))
              have bR3 := boxed_upto bR2 hbv bR2.lt
              have cR3 := bR3.cell
              have fR3 := bR3.frozen
              gi_wp2_with fail
              exact ⟨((((keeps_below n.h).trans (KeepsOthers.setCell _ _ _)).trans (keeps_below hbv)).trans (KeepsOthers.setCell _ _ _)).from _, ⟨rfl, fun _ => bR3.set _⟩, (bt (HBn.setCell (p := ⟨w.heap.size + 1 + 1 + 1 + 1, 0, none⟩) (by simp; omega) _) hbv).setCell (p := ⟨w.heap.size + 1 + 1, 0, none⟩) (by simp; omega) _⟩
            · gi_wp2_with fail
              exact ⟨((keeps_below n.h).trans (KeepsOthers.setCell _ _ _)).from _, (n.h.mono (by omega)).setCell (p := ⟨w.heap.size + 1 + 1 + 1 + 1, 0, none⟩) (by simp) _, ⟨⟨⟨hnext, by simp; omega⟩, by have := bNn.set (.int .i64 ((pre.length : Int) + 1)); simpa using this⟩, (hB.trans (n.h.mono (by omega))).setCell (p := ⟨w.heap.size + 1 + 1 + 1 + 1, 0, none⟩) (by simp) _⟩⟩
          · have hd3 : (q.2 != y + (pre.length : Int) / a) = true := by simp [h3]
            gi_wp2_with fail
            refine wpIn_region_lat (by kernel_rfl) (by kernel_rfl) (by kernel_rfl) ?_
            repeat (refine wpQuietIn_step (fun _ _ _ _ => trivial) (fun K hK => ?_); go_simp; first | (refine hK _ ?_; clear hK K) | (apply Exists.intro; refine ⟨fun _ => ?_, hK _ ?_⟩; exact callsIn_lat (CallsIn.inRound l (callsIn_wide.2 (refmay_is _ hmay))); clear hK K))
            refine wpQuietIn_nil ?_
            rintro _ ⟨n, rfl⟩
            have bRn := boxed_upto bR n.h bR.lt
            have cR := bRn.cell
            have fR := bRn.frozen
            gi_wp2_with fail
            exact ⟨((keeps_below n.h).trans (KeepsOthers.setCell _ _ _)).from _, ⟨rfl, fun hp' => absurd (next_may hp') (by intro h; exact h3 h.2.2.2)⟩, (bt HBW n.h).setCell (p := ⟨w.heap.size + 1 + 1, 0, none⟩) (by simp; omega) _⟩
        · have hd2 : (q.1 != x + (pre.length : Int) % a) = true := by simp [h2]
          gi_wp2_with fail
          refine wpIn_region_lat (by kernel_rfl) (by kernel_rfl) (by kernel_rfl) ?_
          repeat (refine wpQuietIn_step (fun _ _ _ _ => trivial) (fun K hK => ?_); go_simp; first | (refine hK _ ?_; clear hK K) | (apply Exists.intro; refine ⟨fun _ => ?_, hK _ ?_⟩; exact callsIn_lat (CallsIn.inRound l (callsIn_wide.2 (refmay_is _ hmay))); clear hK K))
          refine wpQuietIn_nil ?_
          rintro _ ⟨n, rfl⟩
          have bRn := boxed_upto bR n.h bR.lt
          have cR := bRn.cell
          have fR := bRn.frozen
          gi_wp2_with fail
          exact ⟨((keeps_below n.h).trans (KeepsOthers.setCell _ _ _)).from _, ⟨rfl, fun hp' => absurd (next_may hp') (by intro h; exact h2 h.2.2.1)⟩, (bt HBW n.h).setCell (p := ⟨w.heap.size + 1 + 1, 0, none⟩) (by simp; omega) _⟩
  case done =>
    rintro D xs W hD rfl ⟨⟨⟨hp, hpm⟩, bN⟩, hB⟩ hK
    have hsW := hB.size
    have HBW : Below w.heap.size w W := HB0.trans (hB.mono (by omega))
    have FR := F0.upto hB (by omega)
    have bR := boxed_upto R0 hB (by omega)
    obtain ⟨⟨c0, c1, c2, c3⟩, _, zr⟩ := id FR
    have hlen : ((allC x y a b).length : Int) = if may x y a b = true then a * b else 0 := by
      cases e : may x y a b
      · simp [allC, e]
      · rw [if_pos rfl]; exact allC_len e
    cases hmay : may x y a b
    · rw [hlen, hmay, if_neg (by simp)] at bN
      have cN := bN.cell
      gi_wp2_with fail
      refine ⟨trivial, ?_⟩
      refine (callsIn_wide.2 (refmay_is _ hmay)).mono ?_
      rintro e w1 ⟨rfl, hb1⟩
      have bN1 := boxed_upto bN hb1 bN.lt
      have cN1 := bN1.cell
      gi_wp2_with fail
      refine ⟨trivial, ?_⟩
      gi_wp2_with fail
      refine ⟨trivial, ?_⟩
      refine (callsIn_wide.2 (awake_any _ (ho.kept (bt HBW hb1)))).mono ?_
      rintro e w2 ⟨rfl, hb2⟩
      have bR2 := boxed_upto bR (bt hb1 hb2) bR.lt
      have cR2 := bR2.cell
      have fR2 := bR2.frozen
      have hK2 := (keeps_below (bt hb1 hb2)).same D _ hK rfl
      have HB2 := bt HBW (bt hb1 hb2)
      gi_wp2_with fail
      have hK3 := (KeepsOthers.setCell _ ⟨w.heap.size + 1 + 1, 0, none⟩ (.bool true)).same D _ hK2 rfl
      refine ⟨by simp, .inl ⟨_, _, rfl, run_takeDeferred hK3, ?_⟩⟩
      have hc5 := cell_kept (bR2.set (.bool true)).cell (grownBy_putObj' _ D (.deferred none)) (fun r e => by cases e; exact ⟨_, hK3, rfl⟩)
      refine ⟨.bool true, ?_, rfl, (HB2.setCell (p := ⟨w.heap.size + 1 + 1, 0, none⟩) (by simp; omega) _).trans (belowK_b (w := w) (Nat.le_refl _) _ D _ _ (by omega) hK3 rfl rfl)⟩
      simp [results, Tryd.f7, go_sem, hc5]
    · obtain ⟨_, ⟨a0, a1⟩, ⟨b0, b1⟩, _⟩ := (may_iff _ _ _ _).1 hmay
      have hP := area_range a0 a1 b0 b1
      rw [hlen, hmay, if_pos rfl] at bN
      gi_wp2_with fail
      refine ⟨trivial, ?_⟩
      refine (callsIn_wide.2 (refmay_is _ hmay)).mono ?_
      rintro e w1 ⟨rfl, hb1⟩
      obtain ⟨⟨d0, d1, d2, d3⟩, _, zr1⟩ := FR.kept hb1
      gi_wp2_with fail
      refine ⟨trivial, ?_⟩
      refine (callsIn_wide.2 (refmay_is _ hmay)).mono ?_
      rintro e w2 ⟨rfl, hb2⟩
      obtain ⟨⟨e0, e1, e2, e3⟩, _, zr2⟩ := FR.kept (bt hb1 hb2)
      have bN1 := boxed_upto bN (bt hb1 hb2) bN.lt
      have cN1 := bN1.cell
      gi_wp2_with fail
      refine ⟨trivial, ?_⟩
      refine (callsIn_wide.2 (awake_any _ (ho.kept (bt HBW (bt hb1 hb2))))).mono ?_
      rintro e w3 ⟨rfl, hb3⟩
      have bR2 := boxed_upto bR (bt (bt hb1 hb2) hb3) bR.lt
      have cR2 := bR2.cell
      have fR2 := bR2.frozen
      have hK2 := (keeps_below (bt (bt hb1 hb2) hb3)).same D _ hK rfl
      have HB2 := bt HBW (bt (bt hb1 hb2) hb3)
      gi_wp2_with fail
      have hK3 := (KeepsOthers.setCell _ ⟨w.heap.size + 1 + 1, 0, none⟩ (.bool true)).same D _ hK2 rfl
      refine ⟨by simp, .inl ⟨_, _, rfl, run_takeDeferred hK3, ?_⟩⟩
      have hc5 := cell_kept (bR2.set (.bool true)).cell (grownBy_putObj' _ D (.deferred none)) (fun r e => by cases e; exact ⟨_, hK3, rfl⟩)
      refine ⟨.bool true, ?_, rfl, (HB2.setCell (p := ⟨w.heap.size + 1 + 1, 0, none⟩) (by simp; omega) _).trans (belowK_b (w := w) (Nat.le_refl _) _ D _ _ (by omega) hK3 rfl rfl)⟩
      simp [results, Tryd.f7, go_sem, hc5]
  case stop =>
    rintro D c pre W hD hpre ⟨⟨rfl, hR⟩, hB⟩ hK
    have bR := hR hpre
    have cR := bR.cell
    gi_wp2
    refine ⟨by simp, .inl ⟨_, _, rfl, run_takeDeferred hK, ?_⟩⟩
    have hc5 := cell_kept bR.cell (grownBy_putObj' _ D (.deferred none)) (fun r e => by cases e; exact ⟨_, hK, rfl⟩)
    refine ⟨.bool true, ?_, rfl, hB.trans (belowK_b (w := w) (Nat.le_refl _) W D _ _ (by omega) hK rfl rfl)⟩
    simp [results, Tryd.f7, go_sem, hc5]
end Go.Proofs.YtebapnoaegdejaaDoor
