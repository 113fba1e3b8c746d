/-
  The document's Octile; what follows of a way: it is legal, costs what is told, comes back at the same cost. The document's Find. RouteFinds walked.
-/
import Derived.Test.YtggaobcdogbjhaaGreatDoorCoAll
import Derived.Deep.RegionHeld3
import Derived.Test.YtggaobcdogbjhaaGreatDoorWkAll
import Derived.Test.YtggaobcdogbjhaaGreatDoorBoth
namespace Go.Proofs.YtggaobcdogbjhaaGreatDoor
open Go.RowKit Go.Shelf
set_option linter.unusedVariables false
set_option linter.unusedSimpArgs false
set_option maxHeartbeats 400000 in
theorem abs_any (a : Int) (w : World) (ha : -9223372036854775807 ≤ a ∧ a ≤ 9223372036854775807) :
    Calls Tryz.prog 53 #[.int .i64 a] w fun e w' => e = .returned (.int .i64 (amt a)) ∧ w' = w := by
  obtain ⟨h0, h1⟩ := ha
  by_cases h : a < 0
  · rw [show amt a = -a by unfold amt; rw [if_pos h]]
    go_enter Tryz.func53, Tryz.ntmps53
    go_wp2
    go_ret
    exact ⟨rfl, rfl⟩
  · rw [show amt a = a by unfold amt; rw [if_neg h]]
    go_enter Tryz.func53, Tryz.ntmps53
    go_wp2
    go_ret
    exact ⟨rfl, rfl⟩
set_option maxHeartbeats 1000000 in
theorem refoctilec_no1 (a b c d : Int) (w : World) (h : nrC a b = false) :
    Calls Tryz.prog 22 #[.agg #[.int .i64 a, .int .i64 b], .agg #[.int .i64 c, .int .i64 d]] w fun e w' => e = .returned (.int .i64 (ocN a b c d)) ∧ Below w.heap.size w w' := by
  rw [ocN_no1 h]
  go_enter Tryz.func22, Tryz.ntmps22
  go_wp2_with (go_at_call 52; refine (refnear_any _ _ _).mono ?_; rintro e w1 ⟨rfl, hb1⟩)
  go_ret
  exact ⟨rfl, bt (box2 _ _ _) hb1⟩
set_option maxHeartbeats 1000000 in
theorem refoctilec_no2 (a b c d : Int) (w : World) (h : nrC a b = true) (h2 : nrC c d = false) :
    Calls Tryz.prog 22 #[.agg #[.int .i64 a, .int .i64 b], .agg #[.int .i64 c, .int .i64 d]] w fun e w' => e = .returned (.int .i64 (ocN a b c d)) ∧ Below w.heap.size w w' := by
  rw [ocN_no2 h2]
  go_enter Tryz.func22, Tryz.ntmps22
  go_wp2_with fail
  refine (refnear_any _ _ _).mono ?_
  rintro e w1 ⟨rfl, hb1⟩
  obtain ⟨⟨e0, e1⟩, _, z1⟩ := cells2'' hb1
  go_wp2_with fail
  refine (refnear_any _ _ _).mono ?_
  rintro e w2 ⟨rfl, hb2⟩
  go_wp2_with fail
  go_ret
  exact ⟨rfl, bt (bt (box2 _ _ _) hb1) hb2⟩
set_option maxHeartbeats 1000000 in
theorem refoctilec_yes (a b c d : Int) (w : World) (h : nrC a b = true) (h2 : nrC c d = true) :
    Calls Tryz.prog 22 #[.agg #[.int .i64 a, .int .i64 b], .agg #[.int .i64 c, .int .i64 d]] w fun e w' => e = .returned (.int .i64 (ocN a b c d)) ∧ Below w.heap.size w w' := by
  rw [ocN_yes h h2]
  obtain ⟨⟨a0, a1⟩, b0, b1⟩ := (nrC_iff a b).1 h
  obtain ⟨⟨cc0, cc1⟩, d0, d1⟩ := (nrC_iff c d).1 h2
  have HO := hide (oct_near h h2)
  have wx : IntKind.i64.wrap (a - c) = a - c := wrap_in (by omega) (by omega)
  have wy : IntKind.i64.wrap (b - d) = b - d := wrap_in (by omega) (by omega)
  go_enter Tryz.func22, Tryz.ntmps22
  go_wp2_with fail
  refine (refnear_any _ _ _).mono ?_
  rintro e w1 ⟨rfl, hb1⟩
  obtain ⟨⟨c0, c1⟩, ⟨f0, f1⟩, z0⟩ := cells2' hb1
  obtain ⟨⟨e0, e1⟩, ⟨g0, g1⟩, z1⟩ := cells2'' hb1
  have B1 := hide (bt (box2 _ _ _) hb1)
  clear hb1
  go_wp2_with fail
  refine (refnear_any _ _ _).mono ?_
  rintro e w2 ⟨rfl, hb2⟩
  obtain ⟨⟨k0, k1⟩, _⟩ := Below.two hb2 z0 c0 c1 f0 f1
  obtain ⟨⟨l0, l1⟩, _⟩ := Below.two hb2 z1 e0 e1 g0 g1
  have B2 := hide hb2
  clear hb2 c0 c1 e0 e1
  go_wp2_with fail
  go_region_held3 (fun w' => (w'.cell? ⟨w.heap.size, 0, none⟩ = some (.int .i64 a) ∧ w'.cell? ⟨w.heap.size, 1, none⟩ = some (.int .i64 b)) ∧ (w'.cell? ⟨w.heap.size + 1, 0, none⟩ = some (.int .i64 c) ∧ w'.cell? ⟨w.heap.size + 1, 1, none⟩ = some (.int .i64 d))) (go_keep)
    ((go_at_call 53; refine (abs_any _ _ (by omega)).mono ?_; rintro e w' ⟨rfl, rfl⟩))
  obtain ⟨m0, m1⟩ := amt_near ⟨a0, a1⟩ ⟨cc0, cc1⟩
  obtain ⟨n0, n1⟩ := amt_near ⟨b0, b1⟩ ⟨d0, d1⟩
  by_cases hlt : amt (b - d) < amt (a - c)
  · go_wp2_with fail
    go_ret
    exact ⟨ret_int (by unfold octN; omega), (bt B1.out B2.out).drew⟩
  · go_wp2_with fail
    go_ret
    exact ⟨ret_int (by unfold octN; omega), (bt B1.out B2.out).drew⟩
theorem refoctilec_any (a b c d : Int) (w : World) :
    Calls Tryz.prog 22 #[.agg #[.int .i64 a, .int .i64 b], .agg #[.int .i64 c, .int .i64 d]] w fun e w' => e = .returned (.int .i64 (ocN a b c d)) ∧ Below w.heap.size w w' := by
  cases h : nrC a b
  · exact refoctilec_no1 a b c d w h
  · cases h2 : nrC c d
    · exact refoctilec_no2 a b c d w h h2
    · exact refoctilec_yes a b c d w h h2
section
variable {W H : Int} {tl : List Nat} {f : Int → Int → Option Int} {c s ix iy iw ih : Int} {s0 : Int × Int}
/-- What the rectangle and the world share lies in the rectangle. -/
theorem has_meet {ax ay aw ah u v : Int} (hm : mtV ax ay aw ah 0 0 W H = rct ix iy iw ih) (h : has ix iy iw ih u v = true) : has ax ay aw ah u v = true := by
  have hb := (has_iff _ _ _ _ _ _).1 h
  unfold mtV at hm
  split at hm
  · rename_i hB
    unfold mtB at hB
    rw [Bool.and_eq_true] at hB
    simp only [span, rct, Value.agg.injEq, Array.mk.injEq, List.cons.injEq, Value.int.injEq, true_and, and_true] at hm
    rw [has_iff]
    refine ⟨hB.1, ?_⟩
    omega
  · simp only [zero4, rct, Value.agg.injEq, Array.mk.injEq, List.cons.injEq, Value.int.injEq, true_and, and_true] at hm
    omega
theorem Finds.both {fx fy tx ty bud o1 o2 c1 c2 : Int} {P Q : List (Int × Int)} (hb : 16384 ≤ bud) (h : Finds W H tl f c s ix iy iw ih fx fy tx ty bud o1 c1 P) (k : Finds W H tl f c s ix iy iw ih tx ty fx fy bud o2 c2 Q) : o1 = o2 ∧ c1 = c2 ∧ (o1 = 1 ∨ (o1 = 2 ∧ P = [])) := by
  rcases h with ⟨rfl, h1, h2, h3, h4⟩ | ⟨rfl, rfl, rfl, h1⟩ | ⟨rfl, rfl, rfl, h1, h2⟩
  · have hbk : Wk (stepR W H tl f c s ix iy iw ih) (fx, fy) (tx, ty) c1.toNat := h3.lst.1.back h2
    rcases k with ⟨rfl, k1, k2, k3, k4⟩ | ⟨rfl, rfl, rfl, k1⟩ | ⟨rfl, rfl, rfl, k1, k2⟩
    · have e1 := k3.lst.2 _ hbk
      have e2 := h3.lst.2 _ (k3.lst.1.back k2)
      have := h3.pos
      have := k3.pos
      exact ⟨rfl, by omega, .inl rfl⟩
    · exact absurd ⟨h2, h3.std, _, hbk⟩ k1
    · omega
  · rcases k with ⟨rfl, k1, k2, k3, k4⟩ | ⟨rfl, rfl, rfl, k1⟩ | ⟨rfl, rfl, rfl, k1, k2⟩
    · exact absurd ⟨k2, k3.std, _, k3.lst.1.back k2⟩ h1
    · exact ⟨rfl, rfl, .inr ⟨rfl, rfl⟩⟩
    · omega
  · omega
/-- Nobody is met twice on the way. -/
theorem Way.later {P : List (Int × Int)} : ∀ {x y r : Int}, At W H tl f c s ix iy iw ih s0 x y r → Way W H tl f c s ix iy iw ih s0 P x y r → ∀ q ∈ P, ∃ r', r' < r ∧ At W H tl f c s ix iy iw ih s0 q.1 q.2 r' := by
  induction P with
  | nil => intro x y r _ _ q hq; cases hq
  | cons p l ihl =>
    rintro x y r ha ⟨h1, t, h2, h3, rfl, h4⟩ q hq
    have hn := ha.next h2
    have hco := co_pos t
    rcases List.mem_cons.1 hq with rfl | hq
    · exact ⟨_, by omega, hn⟩
    · obtain ⟨r', e1, e2⟩ := ihl hn h4 q hq
      exact ⟨r', by omega, e2⟩
theorem Way.nodup {P : List (Int × Int)} : ∀ {x y r : Int}, At W H tl f c s ix iy iw ih s0 x y r → Way W H tl f c s ix iy iw ih s0 P x y r → P.Nodup := by
  induction P with
  | nil => intro x y r _ _; exact List.nodup_nil
  | cons p l ihl =>
    rintro x y r ha ⟨h1, t, h2, h3, rfl, h4⟩
    have hn := ha.next h2
    refine List.nodup_cons.2 ⟨fun hq => ?_, ihl hn h4⟩
    obtain ⟨r', e1, e2⟩ := Way.later hn h4 _ hq
    have := e2.lst.eq hn.lst
    have := e2.pos
    have := hn.pos
    omega
theorem Way.few {P : List (Int × Int)} {x y r : Int} (ha : At W H tl f c s ix iy iw ih s0 x y r) (hw : Way W H tl f c s ix iy iw ih s0 P x y r) : P.length ≤ (ih * iw).toNat :=
  few_cells (ix := ix) (iy := iy) (iw := iw) (ih := ih) (hw.nodup ha) (fun q hq => by
    have := (has_iff _ _ _ _ _ _).1 (hw.all ha q hq).1
    unfold inB
    omega)
theorem Gdn.dir {x y r : Int} {t : Fin 8} (g : Gdn W H tl f c s ix iy iw ih s0 x y r t) : dirN x y (x + dX t.val) (y + dY t.val) = ((t.val : Nat) : Int) :=
  dirN_self t.isLt (by have := g.1; rw [inn, Bool.and_eq_true] at this; exact this.1)
theorem Way.legal {P : List (Int × Int)} : ∀ {x y r : Int}, At W H tl f c s ix iy iw ih s0 x y r → Way W H tl f c s ix iy iw ih s0 P x y r → legF (stB W H tl f c s) x y P = true := by
  induction P with
  | nil => intro x y r _ _; rfl
  | cons p l ihl =>
    rintro x y r ha ⟨h1, t, h2, h3, rfl, h4⟩
    unfold legF
    simp only
    rw [h2.dir, Bool.and_eq_true]
    exact ⟨((lg_step (ix := ix) (iy := iy) (iw := iw) (ih := ih) t.isLt ha.std.2).2 ⟨h2.1, h2.2.1⟩).1, ihl (ha.next h2) h4⟩
theorem Way.cost {P : List (Int × Int)} : ∀ {x y r : Int} (n : Int), Way W H tl f c s ix iy iw ih s0 P x y r → costF x y P n = n + r := by
  induction P with
  | nil => intro x y r n h; have : r = 0 := h; subst this; simp [costF]
  | cons p l ihl =>
    rintro x y r n ⟨h1, t, h2, h3, rfl, h4⟩
    unfold costF
    simp only
    rw [h2.dir, if_neg (by omega), ihl _ h4]
    omega
end
end Go.Proofs.YtggaobcdogbjhaaGreatDoor
set_option linter.unusedSimpArgs false
namespace Go.Proofs.YtggaobcdogbjhaaGreatDoor
open Go.RowKit Go.Shelf
set_option linter.unusedVariables false
attribute [local go_sem] Oper.semAt_some
section
variable {W H : Int} {tl : List Nat} {f : Int → Int → Option Int} {c s ix iy iw ih : Int}
theorem meet_has {ax ay aw ah u v : Int} (hm : mtV ax ay aw ah 0 0 W H = rct ix iy iw ih) (h1 : has ax ay aw ah u v = true) (h2 : has 0 0 W H u v = true) : has ix iy iw ih u v = true ∧ mtB ax ay aw ah 0 0 W H = true := by
  have hB : mtB ax ay aw ah 0 0 W H = true := (mtB_iff _ _ _ _ _ _ _ _).2 ⟨u, v, h1, h2⟩
  have k1 := (has_iff _ _ _ _ _ _).1 h1
  have k2 := (has_iff _ _ _ _ _ _).1 h2
  have m1 := (may_iff _ _ _ _).1 k1.1
  have m2 := (may_iff _ _ _ _).1 k2.1
  unfold mtV at hm
  rw [if_pos hB] at hm
  simp only [span, rct, Value.agg.injEq, Array.mk.injEq, List.cons.injEq, Value.int.injEq, true_and, and_true] at hm
  refine ⟨?_, hB⟩
  rw [has_iff, may_iff]
  omega
theorem Finds.same {fx fy tx ty bud o1 o2 c1 c2 : Int} {P Q : List (Int × Int)} (h : Finds W H tl f c s ix iy iw ih fx fy tx ty bud o1 c1 P) (k : Finds W H tl f c s ix iy iw ih fx fy tx ty 16384 o2 c2 Q) : (o1 = 3 ∧ c1 = 0 ∧ P = [] ∧ bud < iw * ih) ∨ (o1 = o2 ∧ c1 = c2 ∧ P = Q ∧ (o1 = 1 ∨ o1 = 2)) := by
  rcases h with ⟨rfl, h1, h2, h3, h4⟩ | ⟨rfl, rfl, rfl, h1⟩ | ⟨rfl, rfl, rfl, h1, h2⟩
  · obtain ⟨rfl, rfl, rfl⟩ := k.part (by omega) h2 h3 h4
    exact .inr ⟨rfl, rfl, rfl, .inl rfl⟩
  · rcases k with ⟨rfl, k1, k2, k3, k4⟩ | ⟨rfl, rfl, rfl, k1⟩ | ⟨rfl, rfl, rfl, k1, k2⟩
    · exact absurd ⟨k3.std, k2, _, k3.lst.1⟩ h1
    · exact .inr ⟨rfl, rfl, rfl, .inr rfl⟩
    · omega
  · exact .inl ⟨rfl, rfl, rfl, h1⟩
/-- What the list tells of a cell of the rectangle. -/
theorem Tbl.at {s0 q : Int × Int} {K : List Int} (h : Tbl W H tl f c s ix iy iw ih s0 K) (hq : inB ix iy iw ih q) : ∃ m : Int, K[ij ix iy iw q.1 q.2]? = some m ∧ (-1 ≤ m ∧ m ≤ 229376) ∧ (m < 0 → ∀ n, ¬ (Std W H tl f c s ix iy iw ih s0 ∧ Wk (stepR W H tl f c s ix iy iw ih) s0 q n)) ∧ (0 ≤ m → Least (stepR W H tl f c s ix iy iw ih) s0 q m.toNat) := by
  rcases h.2 q hq with ⟨n, h1, h2, h3, h4⟩ | ⟨h1, h2⟩
  · exact ⟨n, h1, by omega, fun k => by omega, fun _ => by rwa [Int.toNat_natCast]⟩
  · exact ⟨-1, h1, by omega, fun _ => h2, fun k => by omega⟩
/-- The document's test is whether the way goes on so. -/
theorem gdn_iff {s0 : Int × Int} {K : List Int} {x y r : Int} {d : Nat} (hd : d < 8) (ht : Tbl W H tl f c s ix iy iw ih s0 K) (h0 : Std W H tl f c s ix iy iw ih s0) (ha : At W H tl f c s ix iy iw ih s0 x y r) {m : Int} (hm : K[ij ix iy iw (x + dX d) (y + dY d)]? = some m) (hin : inB ix iy iw ih (x + dX d, y + dY d)) :
    Gdn W H tl f c s ix iy iw ih s0 x y r ⟨d, hd⟩ ↔ (lg (stB W H tl f c s) x y (d : Nat) = true ∧ has ix iy iw ih (x + dX d) (y + dY d) = true) ∧ 0 ≤ m ∧ m + co (d : Nat) = r := by
  obtain ⟨m', h1, h2, h3, h4⟩ := ht.at hin
  rw [hm] at h1
  cases h1
  have hco := co_pos ⟨d, hd⟩
  simp only at hco
  constructor
  · rintro ⟨g1, g2, g3, g4⟩
    simp only at g1 g2 g3 g4
    refine ⟨(lg_step hd ha.std.2).2 ⟨g1, g2⟩, ?_⟩
    by_cases hn : m < 0
    · exact absurd ⟨h0, g4.1⟩ (h3 hn _)
    · have := (h4 (by omega)).eq g4
      omega
  · rintro ⟨k1, k2, k3⟩
    obtain ⟨g1, g2⟩ := (lg_step hd ha.std.2).1 k1
    refine ⟨g1, g2, by simp only; omega, ?_⟩
    have := h4 k2
    simp only
    rwa [show r - co (d : Nat) = m by omega]
end
theorem Cn.push2 {w : World} {v : Value} {P : List (Int × Int)} {N : Nat} (h : Cn w v P) (x y : Int) (hlen : P.length ≤ 1000000000) :
    ∃ v' w', (Builtin.append_ #[39, 39] 39 #[v, .slice (some ⟨w.heap.size, 0, none⟩) 1 1]).run Tryz.prog (w.alloc (.cells #[.int .i64 x, .int .i64 y] 29)) = .ok v' w' ∧ (∃ a n c, v' = .slice a n c) ∧ Cn w' v' (P ++ [(x, y)]) ∧ (v'.ownBlock = v.ownBlock ∨ ∃ k, v'.ownBlock = some k ∧ w.heap.size < k) ∧ Turns (fun k => v.ownBlock = some k) w w' := by
  obtain ⟨fi, hf, hz, h1, h8⟩ := info_parts info29c
  obtain ⟨v', w', q1, q2, q3, q4, q5⟩ := run_append_own_at (P := Tryz.prog) (w.alloc (.cells #[.int .i64 x, .int .i64 y] 29)) 0 39 39 29 fi (.agg #[.int .i64 0, .int .i64 0]) 2 16 Tryz.underlying39 hf hz h1 h8 rfl (by decide) v P.length _ (World.ownsRow.alloc h _) ⟨w.heap.size, 0, none⟩ 1 1 (ceCs (x, y)) rfl (fun j u hu => by
      rw [Addr.add_lit, Nat.zero_add, cell_of_row _ w.heap.size j _ _ _ (heap_alloc_new w _)]
      simpa [ceCs] using hu) (by intro u hu; simp [ceCs] at hu; rcases hu with rfl | rfl <;> rfl) (by unfold maxLen; omega) (by omega) (Nat.zero_le _)
  have n1 : Cn w' v' (P ++ [(x, y)]) := by
    unfold Cn
    rw [List.flatMap_append, List.length_append]
    simpa using q2
  refine ⟨v', w', q1, n1.slice, n1, ?_, (Turns.of_below (box1 w _)).trans ((Turns.of_grown (S := fun k => v.ownBlock = some k) q3 (fun k e => e)).mono (fun k _ e => .inl e))⟩
  rcases q5 with q | q
  · exact .inl q
  · exact .inr ⟨_, q, by simp⟩
/-- What the walk along the numbers keeps. -/
structure Lz (X W : World) (rb kb n2 ob bc : Nat) (ix iy iw ih : Int) (K : List Int) (x y : Int) (v : Value) (P : List (Int × Int)) : Prop where
  bl : Below X.heap.size X W
  rc : Four W rb ix iy iw ih
  ct : Cts W (.slice (some ⟨kb, 0, none⟩) n2 n2) K
  out : W.heap[ob]? = some (.cells #[.int .i64 1, v] 41)
  ce : Two W bc x y
  row : Cn W v P
  lo : ((X.heap.size ≤ ob ∧ rb < ob) ∧ kb < ob) ∧ ob < bc
  own : ∀ g, v.ownBlock = some g → ob < g ∧ g ≠ bc
section
variable {X W W' : World} {rb kb n2 ob bc : Nat} {ix iy iw ih : Int} {K : List Int} {x y : Int} {v : Value} {P : List (Int × Int)}
theorem Lz.upto (h : Lz X W rb kb n2 ob bc ix iy iw ih K x y v P) (hb : Below W.heap.size W W') : Lz X W' rb kb n2 ob bc ix iy iw ih K x y v P :=
  ⟨bt h.bl hb, h.rc.kept hb, h.ct.upto hb, (hb.block _ (Array.getElem?_eq_some_iff.1 h.out).1).trans h.out, h.ce.kept hb, h.row.turned (Turns.of_below (S := NoB) hb) (fun _ _ => id), h.lo, h.own⟩
theorem Lz.setc (h : Lz X W rb kb n2 ob bc ix iy iw ih K x y v P) (u t : Int) : Lz X ((W.setCell ⟨bc, 0, none⟩ (.int .i64 u)).setCell ⟨bc, 1, none⟩ (.int .i64 t)) rb kb n2 ob bc ix iy iw ih K u t v P := by
  have T : Turns (fun k => k = bc) W ((W.setCell ⟨bc, 0, none⟩ (.int .i64 u)).setCell ⟨bc, 1, none⟩ (.int .i64 t)) := turns_two _ _ _ _
  have hl := h.lo
  exact ⟨h.bl.trans (T.below (fun j e => by omega) h.bl.size), h.rc.turned T (by omega), h.ct.kept T (fun k e => by simp [Value.ownBlock] at e; omega), T.same (by omega) h.out, h.ce.set, h.row.turned T (fun g hg e => (h.own g hg).2 e), h.lo, h.own⟩
/-- A cell more. -/
theorem Lz.push {v' : Value} (h : Lz X W rb kb n2 ob bc ix iy iw ih K x y v P) (hc : Cn W' v' (P ++ [(x, y)])) (ho : v'.ownBlock = v.ownBlock ∨ ∃ k, v'.ownBlock = some k ∧ W.heap.size < k) (T : Turns (fun k => v.ownBlock = some k) W W') :
    Lz X (W'.setCell ⟨ob, 1, none⟩ v') rb kb n2 ob bc ix iy iw ih K x y v' (P ++ [(x, y)]) ∧ W'.heap[ob]? = some (.cells #[.int .i64 1, v] 41) ∧ Two W' bc x y := by
  have hl := h.lo
  have hbs := h.bl.size
  have T2 : Turns (fun k => k = ob) W' (W'.setCell ⟨ob, 1, none⟩ v') := Turns.set (S := fun k => k = ob) W' (p := ⟨ob, 1, none⟩) rfl _
  have o1 : W'.heap[ob]? = some (.cells #[.int .i64 1, v] 41) := T.same (fun e => by have := (h.own _ e).1; omega) h.out
  have c1 : Two W' bc x y := h.ce.turned T (fun e => (h.own _ e).2 rfl)
  have how : ∀ g, v'.ownBlock = some g → ob < g ∧ g ≠ bc := fun g hg => by
    rcases ho with e | ⟨k, e, hk⟩
    · exact h.own g (by rw [← e]; exact hg)
    · rw [e] at hg; cases hg
      have h1 := h.ce.2.2
      exact ⟨by omega, by omega⟩
  have b1 : Below X.heap.size X W' := h.bl.trans (T.below (fun j e => by have := (h.own _ e).1; omega) hbs)
  refine ⟨⟨b1.trans (T2.below (fun j e => by omega) b1.size), (h.rc.turned T (fun e => by have := (h.own _ e).1; omega)).turned T2 (by omega), (h.ct.kept T (fun k e q => by simp [Value.ownBlock] at e; have := (h.own _ q).1; omega)).kept T2 (fun k e => by simp [Value.ownBlock] at e; omega), ?_, c1.turned T2 (by omega), hc.turned T2 (fun g hg e => by have := (how g hg).1; omega), h.lo, how⟩, o1, c1⟩
  simp [World.setCell, Array.getElem?_modify, o1]
/-- A box anew for the cell. -/
theorem Lz.box (h : Lz X W rb kb n2 ob bc ix iy iw ih K x y v P) : Lz X (W.alloc (.cells #[.int .i64 x, .int .i64 y] 29)) rb kb n2 ob W.heap.size ix iy iw ih K x y v P := by
  have h2 := h.upto (box1 W (.cells #[.int .i64 x, .int .i64 y] 29))
  have hl := h.lo
  have h9 := h.ce.2.2
  refine ⟨h2.bl, h2.rc, h2.ct, h2.out, Two.newAt rfl, h2.row, ⟨hl.1, by omega⟩, fun g hg => ⟨(h.own g hg).1, ?_⟩⟩
  obtain ⟨cur, hcur⟩ := row_cells h.row hg
  have := (Array.getElem?_eq_some_iff.1 hcur).1
  omega
end
set_option maxHeartbeats 1000000 in
theorem dat_is {w : World} {kb n2 : Nat} {ix iy : Int} {rw rh : Nat} {K : List Int} {x y m : Int} (hi : 0 ≤ ix ∧ 0 ≤ iy ∧ ix + rw ≤ 128 ∧ iy + rh ≤ 128) (hK : Cts w (.slice (some ⟨kb, 0, none⟩) n2 n2) K) (hq : inB ix iy rw rh (x, y)) (hm : K[ij ix iy rw x y]? = some m) :
    Calls Tryz.prog 41 #[.slice (some ⟨kb, 0, none⟩) n2 n2, rct ix iy rw rh, cel x y] w fun e w' => e = .returned (.int .i64 m) ∧ Below w.heap.size w w' := by
  have hl := (List.getElem?_eq_some_iff.1 hm).1
  obtain ⟨g, cap, hv, -⟩ := hK.form (by omega)
  injection hv with e1 e2 e3
  subst e2; subst e3
  obtain ⟨zy, z, z', hz0, hz1, hz2, hz3⟩ := idx_walk hi hq
  obtain ⟨j, hj⟩ : ∃ j, ij ix iy rw x y = j := ⟨_, rfl⟩
  rw [hj] at hm hz3 hl
  obtain ⟨X, hX⟩ : ∃ X, (w.alloc (.cells #[.int .i64 ix, .int .i64 iy, .int .i64 (rw : Nat), .int .i64 (rh : Nat)] 31)).alloc (.cells #[.int .i64 x, .int .i64 y] 29) = X := ⟨_, rfl⟩
  have B0 : Below w.heap.size w X := hX ▸ box2 _ _ _
  have F0 : Four X w.heap.size ix iy rw rh := by rw [← hX]; exact (Four.newAt _ _ _ _ _ rfl).kept (box1 _ _)
  have F1 : Two X (w.heap.size + 1) x y := by rw [← hX]; exact Two.newAt (by simp)
  have cu := (Cts.got (hK.upto B0) hm).1
  obtain ⟨⟨g0, g1, g2, g3⟩, -, -⟩ := F0
  obtain ⟨⟨c0, c1⟩, -, -⟩ := F1
  have HX := hide hX
  have HB := hide B0
  have hjI : (0 : Int) ≤ (j : Nat) ∧ ((j : Nat) : Int) < (K.length : Nat) := by omega
  clear hX B0 hK hq hi hm hj hl e1
  go_enter Tryz.func41, Tryz.ntmps41
  go_wp2_with (first | rw [HX.out] | fail)
  go_ret
  exact ⟨rfl, HB.out⟩
/-- How the document's Find ends. -/
def DFindEnd (W H : Int) (tl : List Nat) (f : Int → Int → Option Int) (c s fx fy tx ty ix iy iw ih : Int) (w : World) (e : Ending) (w' : World) : Prop :=
  ∃ (o : Int) (va : Option Addr) (vn vc : Nat) (cost : Int) (P : List (Int × Int)), e = .returned (.tuple #[.agg #[.int .i64 o, .slice va vn vc], .int .i64 cost]) ∧ Below w.heap.size w w' ∧ Cn w' (.slice va vn vc) P ∧ Finds W H tl f c s ix iy iw ih fx fy tx ty 16384 o cost P
set_option maxRecDepth 100000 in
set_option maxHeartbeats 16000000 in
theorem dfind_is {w : World} {W H : Int} {tl : List Nat} {f : Int → Int → Option Int} {c s fx fy tx ty ax ay aw ah ix iy iw ih : Int} {a : Option Addr} {n cap : Nat} (h : Grd w W H tl f c s (.slice a n cap)) (hA : W * H ≤ 1000) (hm : mtV ax ay aw ah 0 0 W H = rct ix iy iw ih) :
    Calls Tryz.prog 11 #[.agg #[.int .i64 W, .int .i64 H, .slice a n cap], cel fx fy, cel tx ty, rct ax ay aw ah] w (DFindEnd W H tl f c s fx fy tx ty ix iy iw ih w) := by
  have hdim : (1 ≤ W ∧ W ≤ 128) ∧ 1 ≤ H ∧ H ≤ 128 := by obtain ⟨wd, ht, rfl, rfl, hd, -⟩ := h; omega
  obtain ⟨X, hX⟩ : ∃ X, (((((w.alloc (.cells #[.int .i64 W, .int .i64 H, .slice a n cap] 46)).alloc (.cells #[.int .i64 fx, .int .i64 fy] 29)).alloc (.cells #[.int .i64 tx, .int .i64 ty] 29)).alloc (.cells #[.int .i64 ax, .int .i64 ay, .int .i64 aw, .int .i64 ah] 31)).alloc (.cells #[.int .i64 0, .slice none 0 0] 41)).alloc (.cells #[.int .i64 2, .slice none 0 0] 41) = X := ⟨_, rfl⟩
  have B0 : Below w.heap.size w X := hX ▸ bt (bt (box2 _ _ _) (box2 _ _ _)) (box2 _ _ _)
  have G0 : X.heap[w.heap.size]? = some (.cells #[.int .i64 W, .int .i64 H, .slice a n cap] 46) := by
    rw [← hX]
    refine ((bt (bt (box2 _ _ _) (box2 _ _ _)) (box1 _ _)).block _ (by simp)).trans ?_
    exact heap_alloc_new _ _
  have F1 : Two X (w.heap.size + 1) fx fy := by rw [← hX]; exact (((((Two.newAt (by simp)).alloc).alloc).alloc).alloc)
  have F2 : Two X (w.heap.size + 2) tx ty := by rw [← hX]; exact ((((Two.newAt (by simp)).alloc).alloc).alloc)
  have F3 : Four X (w.heap.size + 3) ax ay aw ah := by rw [← hX]; exact (Four.newAt _ _ _ _ _ (by simp)).kept (box2 _ _ _)
  have R0 : X.heap[w.heap.size + 4]? = some (.cells #[.int .i64 0, .slice none 0 0] 41) := by
    rw [← hX]
    refine ((box1 _ _).block _ (by simp)).trans ?_
    have := heap_alloc_new ((((w.alloc (.cells #[.int .i64 W, .int .i64 H, .slice a n cap] 46)).alloc (.cells #[.int .i64 fx, .int .i64 fy] 29)).alloc (.cells #[.int .i64 tx, .int .i64 ty] 29)).alloc (.cells #[.int .i64 ax, .int .i64 ay, .int .i64 aw, .int .i64 ah] 31)) (.cells #[.int .i64 0, .slice none 0 0] 41)
    simpa using this
  have R1 : X.heap[w.heap.size + 5]? = some (.cells #[.int .i64 2, .slice none 0 0] 41) := by
    rw [← hX]
    have := heap_alloc_new (((((w.alloc (.cells #[.int .i64 W, .int .i64 H, .slice a n cap] 46)).alloc (.cells #[.int .i64 fx, .int .i64 fy] 29)).alloc (.cells #[.int .i64 tx, .int .i64 ty] 29)).alloc (.cells #[.int .i64 ax, .int .i64 ay, .int .i64 aw, .int .i64 ah] 31)).alloc (.cells #[.int .i64 0, .slice none 0 0] 41)) (.cells #[.int .i64 2, .slice none 0 0] 41)
    simpa using this
  have zX : X.heap.size = w.heap.size + 6 := by rw [← hX]; simp
  have HB : Hid (∀ wx, Below X.heap.size X wx → ((wx.cell? ⟨w.heap.size, 0, none⟩ = some (.int .i64 W) ∧ wx.cell? ⟨w.heap.size, 1, none⟩ = some (.int .i64 H)) ∧ wx.cell? ⟨w.heap.size, 2, none⟩ = some (.slice a n cap)) ∧ Two wx (w.heap.size + 1) fx fy ∧ Two wx (w.heap.size + 2) tx ty ∧ Four wx (w.heap.size + 3) ax ay aw ah ∧
      wx.heap[w.heap.size + 4]? = some (.cells #[.int .i64 0, .slice none 0 0] 41) ∧ wx.heap[w.heap.size + 5]? = some (.cells #[.int .i64 2, .slice none 0 0] 41) ∧ Below w.heap.size w wx ∧ Grd wx W H tl f c s (.slice a n cap)) := hide fun wx q => by
    have G1 := (q.block _ (by omega)).trans G0
    refine ⟨⟨⟨?_, ?_⟩, ?_⟩, F1.kept q, F2.kept q, F3.kept q, (q.block _ (by omega)).trans R0, (q.block _ (by omega)).trans R1, bt B0 q, h.upto (bt B0 q)⟩ <;> (rw [cell_of_row _ _ _ _ _ _ G1]; rfl)
  have HX := hide hX
  have Hz := hide zX
  have Hm := hide (And.intro hm (And.intro hdim hA))
  have HX0 : Hid (Below X.heap.size X X) := hide (Below.refl _ _)
  clear hX B0 G0 F1 F2 F3 R0 R1 zX h hm hA hdim
  go_enter Tryz.func11, Tryz.ntmps11
  obtain ⟨⟨r0, r1, r2, r3⟩, -, -⟩ := (HB.out _ HX0.out).2.2.2.1
  go_wp2_with (first | rw [HX.out] | fail)
  by_cases hmay : may ax ay aw ah = true
  · refine (refmay_is _ hmay).mono ?_
    rintro e w1 ⟨rfl, hb1⟩
    have HB1 := hide hb1
    clear hb1 r0 r1 r2 r3
    obtain ⟨⟨r0, r1, r2, r3⟩, -, -⟩ := (HB.out _ HB1.out).2.2.2.1
    obtain ⟨⟨a0, a1⟩, -, -⟩ := (HB.out _ HB1.out).2.1
    go_wp2_with fail
    by_cases hhf : has ax ay aw ah fx fy = true
    · refine (refhas_is _ hhf).mono ?_
      rintro e w2 ⟨rfl, hb2⟩
      have HB2 := hide (bt HB1.out hb2)
      clear hb2 r0 r1 r2 r3 a0 a1 HB1
      obtain ⟨⟨r0, r1, r2, r3⟩, -, -⟩ := (HB.out _ HB2.out).2.2.2.1
      obtain ⟨⟨b0, b1⟩, -, -⟩ := (HB.out _ HB2.out).2.2.1
      go_wp2_with fail
      by_cases hht : has ax ay aw ah tx ty = true
      · refine (refhas_is _ hht).mono ?_
        rintro e w3 ⟨rfl, hb3⟩
        have HB3 := hide (bt HB2.out hb3)
        have Hhf := hide (And.intro hhf hht)
        clear hb3 r0 r1 r2 r3 b0 b1 HB2 hmay hhf hht
        have HMt : Hid (∀ wx, Calls Tryz.prog 39 #[rct ax ay aw ah, rct 0 0 W H] wx fun e w' => e = .returned (.tuple #[rct ix iy iw ih, .bool (mtB ax ay aw ah 0 0 W H)]) ∧ Below wx.heap.size wx w') := hide fun wx => by
          have := refmeet_any ax ay aw ah 0 0 W H wx
          rwa [Hm.out.1] at this
        obtain ⟨⟨r0, r1, r2, r3⟩, -, -⟩ := (HB.out _ HB3.out).2.2.2.1
        obtain ⟨⟨g0, g1⟩, g2⟩ := (HB.out _ HB3.out).1
        go_wp2_with fail
        refine (HMt.out _).mono ?_
        rintro e w4 ⟨rfl, hb4⟩
        obtain ⟨X4, hX4⟩ : ∃ Y, w4.alloc (.cells #[.int .i64 ix, .int .i64 iy, .int .i64 iw, .int .i64 ih] 31) = Y := ⟨_, rfl⟩
        have B4 : Below w4.heap.size w4 X4 := hX4 ▸ box1 _ _
        have R4 : Four X4 w4.heap.size ix iy iw ih := by rw [← hX4]; exact Four.new _ _ _ _ _ _
        have HX4 := hide hX4
        have HB4 := hide (bt HB3.out (bt hb4 B4))
        have HR4 := hide R4
        have Hs4 : Hid (X.heap.size ≤ w4.heap.size) := hide (bt HB3.out hb4).size
        obtain ⟨rb, hrb⟩ : ∃ rb, w4.heap.size = rb := ⟨_, rfl⟩
        rw [hrb] at HR4 Hs4
        clear hb4 r0 r1 r2 r3 g0 g1 g2 B4 R4 hX4 HMt HB3
        obtain ⟨⟨g0, g1⟩, g2⟩ := (HB.out _ HB4.out).1
        obtain ⟨⟨a0, a1⟩, -, -⟩ := (HB.out _ HB4.out).2.1
        obtain ⟨mb, hmb⟩ : ∃ mb, mtB ax ay aw ah 0 0 W H = mb := ⟨_, rfl⟩
        rw [hmb]
        have Hmb := hide hmb
        clear hmb
        cases mb
        · have Hno : Hid (¬ (Std W H tl f c s ix iy iw ih (fx, fy) ∧ Std W H tl f c s ix iy iw ih (tx, ty) ∧ ∃ k, Wk (stepR W H tl f c s ix iy iw ih) (tx, ty) (fx, fy) k)) := hide fun q => by
            have h1 := has_meet Hm.out.1 q.1.1
            have h2 := (meet_has Hm.out.1 h1 (st_has q.1.2)).2
            rw [Hmb.out] at h2
            cases h2
          clear g0 g1 g2 a0 a1
          obtain ⟨-, -, -, -, r4, r5, hBw, -⟩ := HB.out _ HB4.out
          obtain ⟨Y, hY, hc, TY⟩ := res_put r4 2 (.slice none 0 0)
          obtain ⟨⟨y0, y1⟩, y2, y3⟩ := res_cells r4
          obtain ⟨⟨y4, y5⟩, y6, y7⟩ := res_cells r5
          obtain ⟨z0, z1⟩ := hc
          have HY := hide hY
          have HE : Hid (DFindEnd W H tl f c s fx fy tx ty ix iy iw ih w (.returned (.tuple #[.agg #[.int .i64 2, .slice none 0 0], .int .i64 0])) Y) := hide ⟨2, none, 0, 0, 0, [], rfl, hBw.trans (TY.below (fun j e => by omega) hBw.size), Cn.nil _, .inr (.inl ⟨rfl, rfl, rfl, Hno.out⟩)⟩
          clear r4 r5 hBw TY hY
          go_wp2_with (first | rw [HX4.out] | rw [HY.out] | fail)
          refine bodyPost_ret (v := .tuple #[.agg #[.int .i64 2, .slice none 0 0], .int .i64 0]) (by simp [results, Tryz.f11, go_sem, z0, z1]) rfl ?_
          exact HE.out
        have HSt : Hid (∀ wx x y b, Below X.heap.size X wx → stB W H tl f c s x y = b → Calls Tryz.prog 40 #[.agg #[.int .i64 W, .int .i64 H, .slice a n cap], cel x y] wx fun e w' => e = .returned (.bool b) ∧ Below wx.heap.size wx w') := hide fun wx x y b q e => e ▸ dstands_is x y (HB.out wx q).2.2.2.2.2.2.2
        go_wp2_with (first | rw [HX4.out] | fail)
        try rw [hrb]
        by_cases hsf : stB W H tl f c s fx fy = true
        · refine (HSt.out _ _ _ _ HB4.out hsf).mono ?_
          rintro e w5 ⟨rfl, hb5⟩
          have HB5 := hide (bt HB4.out hb5)
          have HR5 := hide (HR4.out.kept hb5)
          clear hb5 g0 g1 g2 a0 a1 HB4 HR4 HX4
          obtain ⟨⟨g0, g1⟩, g2⟩ := (HB.out _ HB5.out).1
          obtain ⟨⟨b0, b1⟩, -, -⟩ := (HB.out _ HB5.out).2.2.1
          go_wp2_with fail
          by_cases hst : stB W H tl f c s tx ty = true
          · refine (HSt.out _ _ _ _ HB5.out hst).mono ?_
            rintro e w6 ⟨rfl, hb6⟩
            have HB6 := hide (bt HB5.out hb6)
            have HR6 := hide (HR5.out.kept hb6)
            have hif := (meet_has Hm.out.1 Hhf.out.1 (st_has hsf)).1
            have hit := (meet_has Hm.out.1 Hhf.out.2 (st_has hst)).1
            have HStf : Hid (Std W H tl f c s ix iy iw ih (fx, fy)) := hide ⟨hif, hsf⟩
            have HStt : Hid (Std W H tl f c s ix iy iw ih (tx, ty)) := hide ⟨hit, hst⟩
            obtain ⟨r1, r2, r3⟩ := rect_ok Hm.out.1 Hm.out.2.1.1.2 Hm.out.2.1.2.2 hit
            obtain ⟨-, f2, f3⟩ := rect_ok Hm.out.1 Hm.out.2.1.1.2 Hm.out.2.1.2.2 hif
            obtain ⟨rw, hrw⟩ : ∃ rw : Nat, iw = rw := ⟨iw.toNat, by omega⟩
            obtain ⟨rh, hrh⟩ : ∃ rh : Nat, ih = rh := ⟨ih.toNat, by omega⟩
            have HDc : Hid (∀ wx, Below X.heap.size X wx → Calls Tryz.prog 19 #[.agg #[.int .i64 W, .int .i64 H, .slice a n cap], cel tx ty, rct ix iy iw ih] wx (DEnd W H tl f c s ix iy iw ih tx ty wx)) := hide fun wx q => dcosts_is (HB.out wx q).2.2.2.2.2.2.2 Hm.out.2.2 (by omega) ⟨r2, r3⟩
            have hin : ∀ x y, has ix iy iw ih x y = true ↔ inB ix iy iw ih (x, y) := fun x y => has_inB (by have := Hm.out.2.1; omega)
            have Hin := hide hin
            have Hr8 : Hid (0 ≤ ix ∧ 0 ≤ iy ∧ ix + (rw : Int) ≤ 128 ∧ iy + (rh : Int) ≤ 128) := hide (by have := Hm.out.2.1; omega)
            have Hfin : Hid (inB ix iy iw ih (fx, fy)) := hide ⟨f2, f3⟩
            have HAt : Hid (∀ (wx : World) (kb n2 : Nat) (K : List Int) (x y m : Int), Cts wx (.slice (some ⟨kb, 0, none⟩) n2 n2) K → inB ix iy iw ih (x, y) → K[ij ix iy iw x y]? = some m → Calls Tryz.prog 41 #[.slice (some ⟨kb, 0, none⟩) n2 n2, rct ix iy iw ih, cel x y] wx fun e w' => e = .returned (.int .i64 m) ∧ Below wx.heap.size wx w') := hide fun wx kb n2 K x y m q1 q2 q3 => by
              have h8 := Hr8.out
              rw [hrw, hrh] at q2 ⊢
              rw [hrw] at q3
              exact dat_is h8 q1 q2 q3
            clear hb6 g0 g1 g2 b0 b1 HB5 HR5 hsf hst hif hit r1 r2 r3 f2 f3 hrw hrh HSt hin
            obtain ⟨⟨g0, g1⟩, g2⟩ := (HB.out _ HB6.out).1
            obtain ⟨⟨b0, b1⟩, -, -⟩ := (HB.out _ HB6.out).2.2.1
            obtain ⟨⟨q0, q1, q2, q3⟩, -, -⟩ := HR6.out
            go_wp2_with fail
            refine (HDc.out _ HB6.out).mono ?_
            rintro e w7 ⟨kb, n2, K, rfl, hb7, ⟨hct, hkb⟩, htb⟩
            have HB7 := hide (bt HB6.out hb7)
            have HR7 := hide (HR6.out.kept hb7)
            have HC7 := hide hct
            have HTb := hide htb
            have Hkb : Hid (kb < w7.heap.size) := hide (by obtain ⟨cur, hcur⟩ := row_cells hct (j := kb) rfl; exact (Array.getElem?_eq_some_iff.1 hcur).1)
            obtain ⟨ca, hca, hcab, hcn, hcy⟩ := htb.at Hfin.out
            have Hca := hide hca
            have Hcn := hide hcn
            have Hcy := hide hcy
            clear hb7 g0 g1 g2 b0 b1 q0 q1 q2 q3 HB6 HR6 hct hkb htb hca hcn hcy HDc
            obtain ⟨⟨a0, a1⟩, -, -⟩ := (HB.out _ HB7.out).2.1
            obtain ⟨⟨q0, q1, q2, q3⟩, -, -⟩ := HR7.out
            go_wp2_with fail
            refine (HAt.out _ _ _ _ _ _ _ HC7.out Hfin.out Hca.out).mono ?_
            rintro e w8 ⟨rfl, hb8⟩
            have HB8 := hide (bt HB7.out hb8)
            have HR8 := hide (HR7.out.kept hb8)
            have HC8 := hide (HC7.out.upto hb8)
            have Hkb8 : Hid (kb < w8.heap.size) := hide (Nat.lt_of_lt_of_le Hkb.out hb8.size)
            clear hb8 a0 a1 q0 q1 q2 q3 HB7 HR7 HC7 Hkb
            by_cases hca0 : ca < 0
            · have Hno : Hid (¬ (Std W H tl f c s ix iy iw ih (fx, fy) ∧ Std W H tl f c s ix iy iw ih (tx, ty) ∧ ∃ k, Wk (stepR W H tl f c s ix iy iw ih) (tx, ty) (fx, fy) k)) := hide fun q => by obtain ⟨-, q2, k, q3⟩ := q; exact Hcn.out hca0 k ⟨q2, q3⟩
              obtain ⟨-, -, -, -, r4, r5, hBw, -⟩ := HB.out _ HB8.out
              obtain ⟨Y, hY, hc, TY⟩ := res_put r4 2 (.slice none 0 0)
              obtain ⟨⟨y0, y1⟩, y2, y3⟩ := res_cells r4
              obtain ⟨⟨y4, y5⟩, y6, y7⟩ := res_cells r5
              obtain ⟨z0, z1⟩ := hc
              have HY := hide hY
              have HE : Hid (DFindEnd W H tl f c s fx fy tx ty ix iy iw ih w (.returned (.tuple #[.agg #[.int .i64 2, .slice none 0 0], .int .i64 0])) Y) := hide ⟨2, none, 0, 0, 0, [], rfl, hBw.trans (TY.below (fun j e => by omega) hBw.size), Cn.nil _, .inr (.inl ⟨rfl, rfl, rfl, Hno.out⟩)⟩
              clear r4 r5 hBw TY hY
              go_wp2_with (first | rw [HY.out] | fail)
              refine bodyPost_ret (v := .tuple #[.agg #[.int .i64 2, .slice none 0 0], .int .i64 0]) (by simp [results, Tryz.f11, go_sem, z0, z1]) rfl ?_
              exact HE.out
            · have hat : At W H tl f c s ix iy iw ih (tx, ty) fx fy ca := ⟨HStf.out, by omega, Hcy.out (by omega)⟩
              have Hat := hide hat
              clear hat
              obtain ⟨Y8, hY8⟩ : ∃ Y, w8.alloc (.cells #[.int .i64 1, .slice none 0 0] 41) = Y := ⟨_, rfl⟩
              have B8 : Below w8.heap.size w8 Y8 := hY8 ▸ box1 _ _
              have O8 : Y8.heap[w8.heap.size]? = some (.cells #[.int .i64 1, .slice none 0 0] 41) := hY8 ▸ heap_alloc_new w8 _
              have HY8 := hide hY8
              have HB9 := hide (bt HB8.out B8)
              have HR9 := hide (HR8.out.kept B8)
              have HC9 := hide (HC8.out.upto B8)
              have HO9 := hide O8
              have Hlo : Hid ((X.heap.size ≤ w8.heap.size ∧ rb < w8.heap.size) ∧ kb < w8.heap.size) := hide ⟨⟨HB8.out.size, HR8.out.2.2⟩, Hkb8.out⟩
              clear hY8 B8 O8 HB8 HR8 HC8 Hkb8
              obtain ⟨⟨a0, a1⟩, -, -⟩ := (HB.out _ HB9.out).2.1
              obtain ⟨⟨q0, q1, q2, q3⟩, -, -⟩ := HR9.out
              go_wp2_with (first | rw [HY8.out] | fail)
              refine (HAt.out _ _ _ _ _ _ _ HC9.out Hfin.out Hca.out).mono ?_
              rintro e w10 ⟨rfl, hb10⟩
              obtain ⟨X10, hX10⟩ : ∃ Y, w10.alloc (.cells #[.int .i64 fx, .int .i64 fy] 29) = Y := ⟨_, rfl⟩
              have B10 : Below w10.heap.size w10 X10 := hX10 ▸ box1 _ _
              have T10 : Two X10 w10.heap.size fx fy := by rw [← hX10]; exact Two.newAt rfl
              have b10 := bt hb10 B10
              have o10 := (hb10.block _ (Array.getElem?_eq_some_iff.1 HO9.out).1).trans HO9.out
              have HZ : Hid (Lz X X10 rb kb n2 w8.heap.size w10.heap.size ix iy iw ih K fx fy (.slice none 0 0) []) := hide
                ⟨bt HB9.out b10, HR9.out.kept b10, HC9.out.upto b10, (B10.block _ (Array.getElem?_eq_some_iff.1 o10).1).trans o10, T10, Cn.nil _, ⟨Hlo.out, (Array.getElem?_eq_some_iff.1 o10).1⟩, fun g hg => by cases hg⟩
              have HX10 := hide hX10
              have HB10 := hide (bt HB9.out hb10)
              clear hb10 a0 a1 q0 q1 q2 q3 hX10 B10 T10 b10 o10 HB9 HR9 HC9 HO9
              obtain ⟨⟨a0, a1⟩, -, -⟩ := (HB.out _ HB10.out).2.1
              go_wp2_with (first | rw [HX10.out] | fail)
              obtain ⟨ob, hob⟩ : ∃ ob, w8.heap.size = ob := ⟨_, rfl⟩
              rw [hob] at HZ
              try rw [hob]
              clear a0 a1 hob HX10 HB10 Hlo HY8
              go_loopg [16] ca.toNat (fun gk tc wr => ∃ (bc : Nat) (x y r : Int) (v : Value) (P : List (Int × Int)), tc = ptr bc ∧ At W H tl f c s ix iy iw ih (tx, ty) x y r ∧ (gk = r.toNat ∧ P.length * 10 + r.toNat ≤ ca.toNat) ∧ Lz X wr rb kb n2 ob bc ix iy iw ih K x y v P ∧ ∀ l, Way W H tl f c s ix iy iw ih (tx, ty) l x y r → Way W H tl f c s ix iy iw ih (tx, ty) (P ++ l) fx fy ca)
              case atStart => exact ⟨_, fx, fy, ca, _, [], rfl, Hat.out, ⟨rfl, by simp⟩, HZ.out, fun l h => h⟩
              case round =>
                obtain ⟨bc, ux, uy, r, v, P, rfl, hat, ⟨hgk, hln⟩, hZ, hway⟩ := hrel
                clear HZ
                rename World => wo
                obtain ⟨va, vn, vc, hv6⟩ := hZ.row.slice
                subst hv6
                obtain ⟨⟨u0, u1⟩, -, -⟩ := hZ.ce
                obtain ⟨-, -, ⟨⟨t0, t1⟩, -, -⟩, -⟩ := HB.out _ hZ.bl
                have HZ := hide hZ
                have Hat2 := hide hat
                have Hln := hide (And.intro hgk hln)
                have Hway := hide hway
                have hpos := hat.pos
                clear hZ hat hgk hln hway
                by_cases hct : ux = tx ∧ uy = ty
                · obtain ⟨rfl, rfl⟩ := hct
                  have hr0 : r = 0 := by
                    have h9 := Hat2.out.lst.2 0 (.nil _)
                    omega
                  subst hr0
                  obtain ⟨n0, n1⟩ := (res_cells HZ.out.out).1
                  obtain ⟨-, -, -, -, r4, r5, hBw, -⟩ := HB.out _ HZ.out.bl
                  obtain ⟨Y, hY, hc, TY⟩ := res_put r4 1 (.slice va vn vc)
                  obtain ⟨⟨y0, y1⟩, y2, y3⟩ := res_cells r4
                  obtain ⟨z0, z1⟩ := hc
                  have HY := hide hY
                  have HE : Hid (DFindEnd W H tl f c s fx fy ux uy ix iy iw ih w (.returned (.tuple #[.agg #[.int .i64 1, .slice va vn vc], .int .i64 ca])) Y) := hide ⟨1, va, vn, vc, ca, P, rfl, hBw.trans (TY.below (fun j e => by omega) hBw.size), HZ.out.row.turned TY (fun g hg e => by have h1 := (HZ.out.own g hg).1; have h2 := HZ.out.lo; have := Hz.out; omega), .inl ⟨rfl, hcab.2, HStt.out, Hat.out, by have h9 := Hway.out [] rfl; rwa [List.append_nil] at h9⟩⟩
                  clear r4 r5 hBw TY hY
                  go_wp2_with (first | rw [HY.out] | fail)
                  refine bodyPost_ret (v := .tuple #[.agg #[.int .i64 1, .slice va vn vc], .int .i64 ca]) (by simp [results, Tryz.f11, go_sem, z0, z1]) rfl ?_
                  exact HE.out
                · have hr0 : 0 < r := by
                    rcases Int.lt_or_le 0 r with q | q
                    · exact q
                    · have h9 := Hat2.out.lst.1.zero (by omega)
                      simp only [Prod.mk.injEq] at h9
                      exact absurd ⟨h9.1.symm, h9.2.symm⟩ hct
                  have Hr0 := hide hr0
                  clear hr0 hpos
                  by_cases hx : ux = tx
                  · have hy : ¬ uy = ty := fun e => hct ⟨hx, e⟩
                    go_wp2_with fail
                    clear hy hx hct u0 u1 t0 t1
                    go_loopw [17] (fun td wr => ∃ d : Nat, td = .int .i64 (d : Nat) ∧ d ≤ 8 ∧ Lz X wr rb kb n2 ob bc ix iy iw ih K ux uy (.slice va vn vc) P ∧ ∀ d' (h8 : d' < 8), d' < d → ¬ Gdn W H tl f c s ix iy iw ih (tx, ty) ux uy r ⟨d', h8⟩) (fun td _ => 8 - (intOf td).toNat)
                    case atStart => exact ⟨0, rfl, by omega, HZ.out, fun d' h8 h => by omega⟩
                    case round =>
                      obtain ⟨dd, rfl, hdd, hZ2, hno⟩ := hrel
                      clear HZ
                      rename World => wi
                      have HZ2 := hide hZ2
                      have Hno := hide hno
                      clear hZ2 hno
                      by_cases hd8 : dd < 8
                      · have hdI : ((dd : Nat) : Int) < 8 := by omega
                        obtain ⟨rr, hrr⟩ : ∃ rr, lg (stB W H tl f c s) ux uy (dd : Nat) = rr := ⟨_, rfl⟩
                        obtain ⟨ox, hox⟩ : ∃ ox, (if rr = true then sX ux uy (dd : Nat) else 0) = ox := ⟨_, rfl⟩
                        obtain ⟨oy, hoy⟩ : ∃ oy, (if rr = true then sY ux uy (dd : Nat) else 0) = oy := ⟨_, rfl⟩
                        have HSp : Hid (∀ wx, Below X.heap.size X wx → Calls Tryz.prog 42 #[.agg #[.int .i64 W, .int .i64 H, .slice a n cap], cel ux uy, .int .i64 (dd : Nat)] wx fun e' w' => e' = .returned (.tuple #[cel ox oy, .bool rr]) ∧ Below wx.heap.size wx w') := hide fun wx hx => by
                          have := dsteps_is ux uy (dd : Nat) (HB.out wx hx).2.2.2.2.2.2.2
                          rw [hrr, hox, hoy] at this
                          exact this
                        have Hr := hide hrr
                        have Hox := hide hox
                        have Hoy := hide hoy
                        obtain ⟨⟨g0, g1⟩, g2⟩ := (HB.out _ HZ2.out.bl).1
                        obtain ⟨⟨y0, y1⟩, -, -⟩ := HZ2.out.ce
                        clear hrr hox hoy
                        go_wp2_with fail
                        refine (HSp.out _ HZ2.out.bl).mono ?_
                        rintro e' w11 ⟨rfl, hb11⟩
                        obtain ⟨X11, hX11⟩ : ∃ Y, w11.alloc (.cells #[.int .i64 ox, .int .i64 oy] 29) = Y := ⟨_, rfl⟩
                        have B11' : Below w11.heap.size w11 X11 := hX11 ▸ box1 _ _
                        have HZ11 := hide (HZ2.out.upto (bt hb11 B11'))
                        have Hb9 : Hid (Two X11 w11.heap.size ox oy) := hide (by rw [← hX11]; exact Two.newAt rfl)
                        have HX11 := hide hX11
                        have hne := lat_some X11
                        obtain ⟨kc, hkc⟩ : ∃ kc, w11.heap.size = kc := ⟨_, rfl⟩
                        rw [hkc] at Hb9
                        clear hb11 B11' HSp g0 g1 g2 y0 y1 HZ2 hX11
                        go_wp2_with (first | rw [HX11.out] | fail)
                        try rw [hkc]
                        cases rr
                        · have HF2 : Hid (∀ d' (h8 : d' < 8), d' < dd + 1 → ¬ Gdn W H tl f c s ix iy iw ih (tx, ty) ux uy r ⟨d', h8⟩) := hide fun d' h8 h1 hg => by
                              by_cases e2 : d' = dd
                              · subst e2
                                have h9 := ((lg_step (ix := ix) (iy := iy) (iw := iw) (ih := ih) h8 Hat2.out.std.2).2 ⟨hg.1, hg.2.1⟩).1
                                rw [Hr.out] at h9
                                cases h9
                              · exact Hno.out d' h8 (by omega) hg
                          refine wp_region_lat (by kernel_rfl) (by kernel_rfl) ?_
                          repeat (go_big_quiet_step (fail))
                          refine wpQuiet_nil ?_
                          rintro _ ⟨m, rfl⟩
                          have HZm := hide (HZ11.out.upto m.h)
                          clear HZ11
                          go_wp2_with fail
                          go_roundw
                          case rel => exact ⟨dd + 1, by go_num, by omega, HZm.out, HF2.out⟩
                          case measure => simp [intOf]; omega
                        · have hsB : sB ux uy (dd : Nat) = true := by have := Hr.out; unfold lg at this; rw [Bool.and_eq_true] at this; exact this.1
                          have ex : ux + dX dd = ox := by rw [← Hox.out, if_pos rfl, sX_yes hsB]; rfl
                          have ey : uy + dY dd = oy := by rw [← Hoy.out, if_pos rfl, sY_yes hsB]; rfl
                          have Hexy := hide (And.intro ex ey)
                          clear hsB ex ey
                          obtain ⟨k0, k1, k2, k3⟩ := Four.lat HZ11.out.rc
                          obtain ⟨k4, k5⟩ := Two.lat Hb9.out
                          obtain ⟨k6, k7⟩ := Two.lat HZ11.out.ce
                          by_cases hhn : has ix iy iw ih ox oy = true
                          · have hoin : inB ix iy iw ih (ox, oy) := (Hin.out _ _).1 hhn
                            have huin : inB ix iy iw ih (ux, uy) := (Hin.out _ _).1 Hat2.out.std.1
                            obtain ⟨mo, hmo, hmob, -, -⟩ := HTb.out.at hoin
                            obtain ⟨mu, hmu, -, -, hmul⟩ := HTb.out.at huin
                            simp only at hmo hmu hmul
                            have hmur : r = mu := by
                              obtain ⟨m', e1, e2, e3, e4⟩ := HTb.out.at huin
                              simp only at e1 e3 e4
                              rw [hmu] at e1
                              cases e1
                              by_cases hn : mu < 0
                              · exact absurd ⟨HStt.out, Hat2.out.lst.1⟩ (e3 hn _)
                              · have h9 := (e4 (by omega)).eq Hat2.out.lst
                                have := Hat2.out.pos
                                omega
                            subst hmur
                            have Hgd : Hid (Gdn W H tl f c s ix iy iw ih (tx, ty) ux uy r ⟨dd, hd8⟩ ↔ 0 ≤ mo ∧ mo + co (dd : Nat) = r) := hide (by
                              have h9 := gdn_iff hd8 HTb.out HStt.out Hat2.out (m := mo) (by rw [Hexy.out.1, Hexy.out.2]; exact hmo) (by rw [Hexy.out.1, Hexy.out.2]; exact hoin)
                              rw [h9, Hexy.out.1, Hexy.out.2]
                              exact ⟨fun q => q.2, fun q => ⟨⟨Hr.out, hhn⟩, q⟩⟩)
                            obtain ⟨A, hAo, hAu⟩ : ∃ A : Int → Int → Int, K[ij ix iy iw ox oy]? = some (A ox oy) ∧ K[ij ix iy iw ux uy]? = some (A ux uy) := ⟨fun x y => (K[ij ix iy iw x y]?).getD 0, by simp [hmo], by simp [hmu]⟩
                            have e1 : A ox oy = mo := by rw [hmo] at hAo; injection hAo with q; exact q.symm
                            have e2 : A ux uy = r := by rw [hmu] at hAu; injection hAu with q; exact q.symm
                            have HHm : Hid (∀ m : Lat X11, Calls Tryz.prog 18 #[rct ix iy iw ih, cel ox oy] m.w fun e w' => e = .returned (.bool true) ∧ Below m.w.heap.size m.w w') := hide fun m => refhas_is _ hhn
                            have HAm : Hid (∀ (m : Lat X11) (x y : Int), ((x = ox ∧ y = oy) ∨ (x = ux ∧ y = uy)) → Calls Tryz.prog 41 #[.slice (some ⟨kb, 0, none⟩) n2 n2, rct ix iy iw ih, cel x y] m.w fun e w' => e = .returned (.int .i64 (A x y)) ∧ Below m.w.heap.size m.w w') := hide fun m x y hq => by
                              rcases hq with ⟨rfl, rfl⟩ | ⟨rfl, rfl⟩
                              · exact HAt.out m.w kb n2 K _ _ _ (HZ11.out.upto m.h).ct hoin hAo
                              · exact HAt.out m.w kb n2 K _ _ _ (HZ11.out.upto m.h).ct huin hAu
                            obtain ⟨co1, hco⟩ : ∃ co1, co ((dd : Nat) : Int) = co1 := ⟨_, rfl⟩
                            have hcoI : 10 ≤ co1 ∧ co1 ≤ 14 := by rw [← hco]; exact co_pos ⟨dd, hd8⟩
                            have HCo : Hid (∀ wx, Calls Tryz.prog 23 #[.int .i64 (dd : Nat)] wx fun e w' => e = .returned (.int .i64 co1) ∧ w' = wx) := hide fun wx => by rw [← hco]; exact refcost_any _ wx
                            have Hco := hide hco
                            have hAb : -1 ≤ A ox oy ∧ A ox oy ≤ 229376 := by rw [e1]; exact hmob
                            have He1 := hide e1
                            have He2 := hide e2
                            have hvw : IntKind.i64.wrap ((A ox oy) + co1) = (A ox oy) + co1 := IntWalk.i64_in _ (by omega)
                            have Hhn := hide hhn
                            clear hoin huin hmo hmob hmu hmul hAo hAu e1 e2 hco hhn
                            by_cases hj0 : A ox oy < 0
                            · have hjd : decide ((0 : Int) ≤ A ox oy) = false := by simp; omega
                              have hjd2 : decide (A ox oy ≥ (0 : Int)) = false := hjd
                              have HF2 : Hid (∀ d' (h8 : d' < 8), d' < dd + 1 → ¬ Gdn W H tl f c s ix iy iw ih (tx, ty) ux uy r ⟨d', h8⟩) := hide fun d' h8 h1 hg => by
                                  by_cases e2 : d' = dd
                                  · subst e2
                                    have h9 := Hgd.out.1 hg
                                    rw [← He1.out] at h9
                                    omega
                                  · exact Hno.out d' h8 (by omega) hg
                              refine wp_region_lat (by kernel_rfl) (by kernel_rfl) ?_
                              repeat (go_big_quiet_step (first | (go_at_call 18; exact calls_lat (HHm.out _)) | (go_at_call 23; exact calls_lat_same (HCo.out _)) | (go_at_call 41; refine calls_lat (HAm.out _ _ _ ?_); first | exact Or.inl ⟨rfl, rfl⟩ | exact Or.inr ⟨rfl, rfl⟩)))
                              refine wpQuiet_nil ?_
                              rintro _ ⟨m, rfl⟩
                              have HZm := hide (HZ11.out.upto m.h)
                              clear HZ11
                              go_wp2_with fail
                              go_roundw
                              case rel => exact ⟨dd + 1, by go_num, by omega, HZm.out, HF2.out⟩
                              case measure => simp [intOf]; omega
                            · have hjd : decide ((0 : Int) ≤ A ox oy) = true := by simp; omega
                              have hjd2 : decide (A ox oy ≥ (0 : Int)) = true := hjd
                              by_cases heq : (A ox oy) + co1 = (A ux uy)
                              · have hgd : Gdn W H tl f c s ix iy iw ih (tx, ty) ux uy r ⟨dd, hd8⟩ := Hgd.out.2 (by rw [← He1.out, ← He2.out, Hco.out]; exact ⟨by omega, heq⟩)
                                have hnx := Hat2.out.next hgd
                                simp only at hnx
                                rw [Hexy.out.1, Hexy.out.2, Hco.out] at hnx
                                have hwy : ∀ l, Way W H tl f c s ix iy iw ih (tx, ty) l ox oy (r - co1) → Way W H tl f c s ix iy iw ih (tx, ty) ((P ++ [(ox, oy)]) ++ l) fx fy ca := fun l hl => by
                                  rw [List.append_assoc]
                                  refine Hway.out _ ⟨Hr0.out, ⟨dd, hd8⟩, hgd, fun u hu => Hno.out u.val u.isLt hu, by simp only [Hexy.out.1, Hexy.out.2], ?_⟩
                                  simp only
                                  rw [Hexy.out.1, Hexy.out.2, Hco.out]
                                  exact hl
                                have Hnx := hide (And.intro hnx hwy)
                                clear hgd hnx hwy
                                refine wp_region_lat (by kernel_rfl) (by kernel_rfl) ?_
                                repeat (go_big_quiet_step (first | (go_at_call 18; exact calls_lat (HHm.out _)) | (go_at_call 23; exact calls_lat_same (HCo.out _)) | (go_at_call 41; refine calls_lat (HAm.out _ _ _ ?_); first | exact Or.inl ⟨rfl, rfl⟩ | exact Or.inr ⟨rfl, rfl⟩)))
                                refine wpQuiet_nil ?_
                                rintro _ ⟨m, rfl⟩
                                have HZm := hide (HZ11.out.upto m.h)
                                have Hbm := hide (Hb9.out.kept m.h)
                                obtain ⟨wm, hwm⟩ : ∃ wm, m.w = wm := ⟨_, rfl⟩
                                rw [hwm] at HZm Hbm
                                rw [hwm]
                                clear HZ11 Hb9 hwm m k0 k1 k2 k3 k4 k5 k6 k7
                                obtain ⟨Ws, hWs⟩ : ∃ Ws, (wm.setCell ⟨bc, 0, none⟩ (.int .i64 ox)).setCell ⟨bc, 1, none⟩ (.int .i64 oy) = Ws := ⟨_, rfl⟩
                                have HZs := hide (show Lz X Ws rb kb n2 ob bc ix iy iw ih K ox oy (.slice va vn vc) P from hWs ▸ HZm.out.setc ox oy)
                                have hPl : P.length ≤ 1000000000 := by have h1 := Hln.out.2; have h2 := hcab.2; omega
                                obtain ⟨v9, w9, r9, ⟨p1, p2, p3, rfl⟩, hC9, ho9, T9⟩ := HZs.out.row.push2 (N := 0) ox oy hPl
                                obtain ⟨hZ9, o9, c9⟩ := HZs.out.push hC9 ho9 T9
                                obtain ⟨V9, hV9⟩ : ∃ V, w9.setCell ⟨ob, 1, none⟩ (.slice p1 p2 p3) = V := ⟨_, rfl⟩
                                rw [hV9] at hZ9
                                have hZx := hZ9.box
                                have HZx := hide hZx
                                have HWs := hide hWs
                                have HA9 := hide r9
                                have HV9 := hide hV9
                                obtain ⟨⟨u0, u1⟩, ⟨u2, u3⟩, -⟩ := HZm.out.ce
                                obtain ⟨⟨o0, o1⟩, -, -⟩ := Hbm.out
                                obtain ⟨⟨n0, n1⟩, n2', n3⟩ := res_cells HZs.out.out
                                obtain ⟨⟨s0, s1⟩, s2, s3⟩ := res_cells o9
                                obtain ⟨⟨c0, c1⟩, -, -⟩ := HZs.out.ce
                                obtain ⟨⟨d0, d1⟩, -, -⟩ := hZ9.ce
                                clear hWs r9 hV9 hC9 ho9 T9 hZ9 o9 c9 hZx hPl
                                go_wp2_with (first | rw [HWs.out] | rw [HV9.out] | (at_builtin; refine wpList_append_run rfl _ _ 39 rfl _ _ rfl rfl HA9.out ?_))
                                go_roundg ((r - co1).toNat)
                                case measure => have := Hln.out.1; have := Hr0.out; omega
                                case rel =>
                                  refine ⟨_, ox, oy, r - co1, _, P ++ [(ox, oy)], rfl, Hnx.out.1, ⟨rfl, ?_⟩, HZx.out, Hnx.out.2⟩
                                  have h1 := Hln.out
                                  have h2 := Hnx.out.1.pos
                                  simp
                                  omega
                              · have HF2 : Hid (∀ d' (h8 : d' < 8), d' < dd + 1 → ¬ Gdn W H tl f c s ix iy iw ih (tx, ty) ux uy r ⟨d', h8⟩) := hide fun d' h8 h1 hg => by
                                    by_cases e2 : d' = dd
                                    · subst e2
                                      have h9 := Hgd.out.1 hg
                                      rw [← He1.out, ← He2.out, Hco.out] at h9
                                      exact heq h9.2
                                    · exact Hno.out d' h8 (by omega) hg
                                refine wp_region_lat (by kernel_rfl) (by kernel_rfl) ?_
                                repeat (go_big_quiet_step (first | (go_at_call 18; exact calls_lat (HHm.out _)) | (go_at_call 23; exact calls_lat_same (HCo.out _)) | (go_at_call 41; refine calls_lat (HAm.out _ _ _ ?_); first | exact Or.inl ⟨rfl, rfl⟩ | exact Or.inr ⟨rfl, rfl⟩)))
                                refine wpQuiet_nil ?_
                                rintro _ ⟨m, rfl⟩
                                have HZm := hide (HZ11.out.upto m.h)
                                clear HZ11
                                go_wp2_with fail
                                go_roundw
                                case rel => exact ⟨dd + 1, by go_num, by omega, HZm.out, HF2.out⟩
                                case measure => simp [intOf]; omega
                          · have hff : has ix iy iw ih ox oy = false := by simpa using hhn
                            have HHm : Hid (∀ m : Lat X11, Calls Tryz.prog 18 #[rct ix iy iw ih, cel ox oy] m.w fun e w' => e = .returned (.bool false) ∧ Below m.w.heap.size m.w w') := hide fun m => refhas_is _ hff
                            have Hhn := hide hhn
                            clear hff hhn
                            have HF2 : Hid (∀ d' (h8 : d' < 8), d' < dd + 1 → ¬ Gdn W H tl f c s ix iy iw ih (tx, ty) ux uy r ⟨d', h8⟩) := hide fun d' h8 h1 hg => by
                                by_cases e2 : d' = dd
                                · subst e2
                                  have h9 := ((lg_step (ix := ix) (iy := iy) (iw := iw) (ih := ih) h8 Hat2.out.std.2).2 ⟨hg.1, hg.2.1⟩).2
                                  rw [Hexy.out.1, Hexy.out.2] at h9
                                  exact Hhn.out h9
                                · exact Hno.out d' h8 (by omega) hg
                            refine wp_region_lat (by kernel_rfl) (by kernel_rfl) ?_
                            repeat (go_big_quiet_step (first | (go_at_call 18; exact calls_lat (HHm.out _))))
                            refine wpQuiet_nil ?_
                            rintro _ ⟨m, rfl⟩
                            have HZm := hide (HZ11.out.upto m.h)
                            clear HZ11
                            go_wp2_with fail
                            go_roundw
                            case rel => exact ⟨dd + 1, by go_num, by omega, HZm.out, HF2.out⟩
                            case measure => simp [intOf]; omega
                      · exfalso
                        obtain ⟨t, ht⟩ := Hat2.out.some HStt.out Hr0.out
                        exact Hno.out t.val t.isLt (by omega) ht
                  · go_wp2_with fail
                    clear hx hct u0 u1 t0 t1
                    go_loopw [17] (fun td wr => ∃ d : Nat, td = .int .i64 (d : Nat) ∧ d ≤ 8 ∧ Lz X wr rb kb n2 ob bc ix iy iw ih K ux uy (.slice va vn vc) P ∧ ∀ d' (h8 : d' < 8), d' < d → ¬ Gdn W H tl f c s ix iy iw ih (tx, ty) ux uy r ⟨d', h8⟩) (fun td _ => 8 - (intOf td).toNat)
                    case atStart => exact ⟨0, rfl, by omega, HZ.out, fun d' h8 h => by omega⟩
                    case round =>
                      obtain ⟨dd, rfl, hdd, hZ2, hno⟩ := hrel
                      clear HZ
                      rename World => wi
                      have HZ2 := hide hZ2
                      have Hno := hide hno
                      clear hZ2 hno
                      by_cases hd8 : dd < 8
                      · have hdI : ((dd : Nat) : Int) < 8 := by omega
                        obtain ⟨rr, hrr⟩ : ∃ rr, lg (stB W H tl f c s) ux uy (dd : Nat) = rr := ⟨_, rfl⟩
                        obtain ⟨ox, hox⟩ : ∃ ox, (if rr = true then sX ux uy (dd : Nat) else 0) = ox := ⟨_, rfl⟩
                        obtain ⟨oy, hoy⟩ : ∃ oy, (if rr = true then sY ux uy (dd : Nat) else 0) = oy := ⟨_, rfl⟩
                        have HSp : Hid (∀ wx, Below X.heap.size X wx → Calls Tryz.prog 42 #[.agg #[.int .i64 W, .int .i64 H, .slice a n cap], cel ux uy, .int .i64 (dd : Nat)] wx fun e' w' => e' = .returned (.tuple #[cel ox oy, .bool rr]) ∧ Below wx.heap.size wx w') := hide fun wx hx => by
                          have := dsteps_is ux uy (dd : Nat) (HB.out wx hx).2.2.2.2.2.2.2
                          rw [hrr, hox, hoy] at this
                          exact this
                        have Hr := hide hrr
                        have Hox := hide hox
                        have Hoy := hide hoy
                        obtain ⟨⟨g0, g1⟩, g2⟩ := (HB.out _ HZ2.out.bl).1
                        obtain ⟨⟨y0, y1⟩, -, -⟩ := HZ2.out.ce
                        clear hrr hox hoy
                        go_wp2_with fail
                        refine (HSp.out _ HZ2.out.bl).mono ?_
                        rintro e' w11 ⟨rfl, hb11⟩
                        obtain ⟨X11, hX11⟩ : ∃ Y, w11.alloc (.cells #[.int .i64 ox, .int .i64 oy] 29) = Y := ⟨_, rfl⟩
                        have B11' : Below w11.heap.size w11 X11 := hX11 ▸ box1 _ _
                        have HZ11 := hide (HZ2.out.upto (bt hb11 B11'))
                        have Hb9 : Hid (Two X11 w11.heap.size ox oy) := hide (by rw [← hX11]; exact Two.newAt rfl)
                        have HX11 := hide hX11
                        have hne := lat_some X11
                        obtain ⟨kc, hkc⟩ : ∃ kc, w11.heap.size = kc := ⟨_, rfl⟩
                        rw [hkc] at Hb9
                        clear hb11 B11' HSp g0 g1 g2 y0 y1 HZ2 hX11
                        go_wp2_with (first | rw [HX11.out] | fail)
                        try rw [hkc]
                        cases rr
                        · have HF2 : Hid (∀ d' (h8 : d' < 8), d' < dd + 1 → ¬ Gdn W H tl f c s ix iy iw ih (tx, ty) ux uy r ⟨d', h8⟩) := hide fun d' h8 h1 hg => by
                              by_cases e2 : d' = dd
                              · subst e2
                                have h9 := ((lg_step (ix := ix) (iy := iy) (iw := iw) (ih := ih) h8 Hat2.out.std.2).2 ⟨hg.1, hg.2.1⟩).1
                                rw [Hr.out] at h9
                                cases h9
                              · exact Hno.out d' h8 (by omega) hg
                          refine wp_region_lat (by kernel_rfl) (by kernel_rfl) ?_
                          repeat (go_big_quiet_step (fail))
                          refine wpQuiet_nil ?_
                          rintro _ ⟨m, rfl⟩
                          have HZm := hide (HZ11.out.upto m.h)
                          clear HZ11
                          go_wp2_with fail
                          go_roundw
                          case rel => exact ⟨dd + 1, by go_num, by omega, HZm.out, HF2.out⟩
                          case measure => simp [intOf]; omega
                        · have hsB : sB ux uy (dd : Nat) = true := by have := Hr.out; unfold lg at this; rw [Bool.and_eq_true] at this; exact this.1
                          have ex : ux + dX dd = ox := by rw [← Hox.out, if_pos rfl, sX_yes hsB]; rfl
                          have ey : uy + dY dd = oy := by rw [← Hoy.out, if_pos rfl, sY_yes hsB]; rfl
                          have Hexy := hide (And.intro ex ey)
                          clear hsB ex ey
                          obtain ⟨k0, k1, k2, k3⟩ := Four.lat HZ11.out.rc
                          obtain ⟨k4, k5⟩ := Two.lat Hb9.out
                          obtain ⟨k6, k7⟩ := Two.lat HZ11.out.ce
                          by_cases hhn : has ix iy iw ih ox oy = true
                          · have hoin : inB ix iy iw ih (ox, oy) := (Hin.out _ _).1 hhn
                            have huin : inB ix iy iw ih (ux, uy) := (Hin.out _ _).1 Hat2.out.std.1
                            obtain ⟨mo, hmo, hmob, -, -⟩ := HTb.out.at hoin
                            obtain ⟨mu, hmu, -, -, hmul⟩ := HTb.out.at huin
                            simp only at hmo hmu hmul
                            have hmur : r = mu := by
                              obtain ⟨m', e1, e2, e3, e4⟩ := HTb.out.at huin
                              simp only at e1 e3 e4
                              rw [hmu] at e1
                              cases e1
                              by_cases hn : mu < 0
                              · exact absurd ⟨HStt.out, Hat2.out.lst.1⟩ (e3 hn _)
                              · have h9 := (e4 (by omega)).eq Hat2.out.lst
                                have := Hat2.out.pos
                                omega
                            subst hmur
                            have Hgd : Hid (Gdn W H tl f c s ix iy iw ih (tx, ty) ux uy r ⟨dd, hd8⟩ ↔ 0 ≤ mo ∧ mo + co (dd : Nat) = r) := hide (by
                              have h9 := gdn_iff hd8 HTb.out HStt.out Hat2.out (m := mo) (by rw [Hexy.out.1, Hexy.out.2]; exact hmo) (by rw [Hexy.out.1, Hexy.out.2]; exact hoin)
                              rw [h9, Hexy.out.1, Hexy.out.2]
                              exact ⟨fun q => q.2, fun q => ⟨⟨Hr.out, hhn⟩, q⟩⟩)
                            obtain ⟨A, hAo, hAu⟩ : ∃ A : Int → Int → Int, K[ij ix iy iw ox oy]? = some (A ox oy) ∧ K[ij ix iy iw ux uy]? = some (A ux uy) := ⟨fun x y => (K[ij ix iy iw x y]?).getD 0, by simp [hmo], by simp [hmu]⟩
                            have e1 : A ox oy = mo := by rw [hmo] at hAo; injection hAo with q; exact q.symm
                            have e2 : A ux uy = r := by rw [hmu] at hAu; injection hAu with q; exact q.symm
                            have HHm : Hid (∀ m : Lat X11, Calls Tryz.prog 18 #[rct ix iy iw ih, cel ox oy] m.w fun e w' => e = .returned (.bool true) ∧ Below m.w.heap.size m.w w') := hide fun m => refhas_is _ hhn
                            have HAm : Hid (∀ (m : Lat X11) (x y : Int), ((x = ox ∧ y = oy) ∨ (x = ux ∧ y = uy)) → Calls Tryz.prog 41 #[.slice (some ⟨kb, 0, none⟩) n2 n2, rct ix iy iw ih, cel x y] m.w fun e w' => e = .returned (.int .i64 (A x y)) ∧ Below m.w.heap.size m.w w') := hide fun m x y hq => by
                              rcases hq with ⟨rfl, rfl⟩ | ⟨rfl, rfl⟩
                              · exact HAt.out m.w kb n2 K _ _ _ (HZ11.out.upto m.h).ct hoin hAo
                              · exact HAt.out m.w kb n2 K _ _ _ (HZ11.out.upto m.h).ct huin hAu
                            obtain ⟨co1, hco⟩ : ∃ co1, co ((dd : Nat) : Int) = co1 := ⟨_, rfl⟩
                            have hcoI : 10 ≤ co1 ∧ co1 ≤ 14 := by rw [← hco]; exact co_pos ⟨dd, hd8⟩
                            have HCo : Hid (∀ wx, Calls Tryz.prog 23 #[.int .i64 (dd : Nat)] wx fun e w' => e = .returned (.int .i64 co1) ∧ w' = wx) := hide fun wx => by rw [← hco]; exact refcost_any _ wx
                            have Hco := hide hco
                            have hAb : -1 ≤ A ox oy ∧ A ox oy ≤ 229376 := by rw [e1]; exact hmob
                            have He1 := hide e1
                            have He2 := hide e2
                            have hvw : IntKind.i64.wrap ((A ox oy) + co1) = (A ox oy) + co1 := IntWalk.i64_in _ (by omega)
                            have Hhn := hide hhn
                            clear hoin huin hmo hmob hmu hmul hAo hAu e1 e2 hco hhn
                            by_cases hj0 : A ox oy < 0
                            · have hjd : decide ((0 : Int) ≤ A ox oy) = false := by simp; omega
                              have hjd2 : decide (A ox oy ≥ (0 : Int)) = false := hjd
                              have HF2 : Hid (∀ d' (h8 : d' < 8), d' < dd + 1 → ¬ Gdn W H tl f c s ix iy iw ih (tx, ty) ux uy r ⟨d', h8⟩) := hide fun d' h8 h1 hg => by
                                  by_cases e2 : d' = dd
                                  · subst e2
                                    have h9 := Hgd.out.1 hg
                                    rw [← He1.out] at h9
                                    omega
                                  · exact Hno.out d' h8 (by omega) hg
                              refine wp_region_lat (by kernel_rfl) (by kernel_rfl) ?_
                              repeat (go_big_quiet_step (first | (go_at_call 18; exact calls_lat (HHm.out _)) | (go_at_call 23; exact calls_lat_same (HCo.out _)) | (go_at_call 41; refine calls_lat (HAm.out _ _ _ ?_); first | exact Or.inl ⟨rfl, rfl⟩ | exact Or.inr ⟨rfl, rfl⟩)))
                              refine wpQuiet_nil ?_
                              rintro _ ⟨m, rfl⟩
                              have HZm := hide (HZ11.out.upto m.h)
                              clear HZ11
                              go_wp2_with fail
                              go_roundw
                              case rel => exact ⟨dd + 1, by go_num, by omega, HZm.out, HF2.out⟩
                              case measure => simp [intOf]; omega
                            · have hjd : decide ((0 : Int) ≤ A ox oy) = true := by simp; omega
                              have hjd2 : decide (A ox oy ≥ (0 : Int)) = true := hjd
                              by_cases heq : (A ox oy) + co1 = (A ux uy)
                              · have hgd : Gdn W H tl f c s ix iy iw ih (tx, ty) ux uy r ⟨dd, hd8⟩ := Hgd.out.2 (by rw [← He1.out, ← He2.out, Hco.out]; exact ⟨by omega, heq⟩)
                                have hnx := Hat2.out.next hgd
                                simp only at hnx
                                rw [Hexy.out.1, Hexy.out.2, Hco.out] at hnx
                                have hwy : ∀ l, Way W H tl f c s ix iy iw ih (tx, ty) l ox oy (r - co1) → Way W H tl f c s ix iy iw ih (tx, ty) ((P ++ [(ox, oy)]) ++ l) fx fy ca := fun l hl => by
                                  rw [List.append_assoc]
                                  refine Hway.out _ ⟨Hr0.out, ⟨dd, hd8⟩, hgd, fun u hu => Hno.out u.val u.isLt hu, by simp only [Hexy.out.1, Hexy.out.2], ?_⟩
                                  simp only
                                  rw [Hexy.out.1, Hexy.out.2, Hco.out]
                                  exact hl
                                have Hnx := hide (And.intro hnx hwy)
                                clear hgd hnx hwy
                                refine wp_region_lat (by kernel_rfl) (by kernel_rfl) ?_
                                repeat (go_big_quiet_step (first | (go_at_call 18; exact calls_lat (HHm.out _)) | (go_at_call 23; exact calls_lat_same (HCo.out _)) | (go_at_call 41; refine calls_lat (HAm.out _ _ _ ?_); first | exact Or.inl ⟨rfl, rfl⟩ | exact Or.inr ⟨rfl, rfl⟩)))
                                refine wpQuiet_nil ?_
                                rintro _ ⟨m, rfl⟩
                                have HZm := hide (HZ11.out.upto m.h)
                                have Hbm := hide (Hb9.out.kept m.h)
                                obtain ⟨wm, hwm⟩ : ∃ wm, m.w = wm := ⟨_, rfl⟩
                                rw [hwm] at HZm Hbm
                                rw [hwm]
                                clear HZ11 Hb9 hwm m k0 k1 k2 k3 k4 k5 k6 k7
                                obtain ⟨Ws, hWs⟩ : ∃ Ws, (wm.setCell ⟨bc, 0, none⟩ (.int .i64 ox)).setCell ⟨bc, 1, none⟩ (.int .i64 oy) = Ws := ⟨_, rfl⟩
                                have HZs := hide (show Lz X Ws rb kb n2 ob bc ix iy iw ih K ox oy (.slice va vn vc) P from hWs ▸ HZm.out.setc ox oy)
                                have hPl : P.length ≤ 1000000000 := by have h1 := Hln.out.2; have h2 := hcab.2; omega
                                obtain ⟨v9, w9, r9, ⟨p1, p2, p3, rfl⟩, hC9, ho9, T9⟩ := HZs.out.row.push2 (N := 0) ox oy hPl
                                obtain ⟨hZ9, o9, c9⟩ := HZs.out.push hC9 ho9 T9
                                obtain ⟨V9, hV9⟩ : ∃ V, w9.setCell ⟨ob, 1, none⟩ (.slice p1 p2 p3) = V := ⟨_, rfl⟩
                                rw [hV9] at hZ9
                                have hZx := hZ9.box
                                have HZx := hide hZx
                                have HWs := hide hWs
                                have HA9 := hide r9
                                have HV9 := hide hV9
                                obtain ⟨⟨u0, u1⟩, ⟨u2, u3⟩, -⟩ := HZm.out.ce
                                obtain ⟨⟨o0, o1⟩, -, -⟩ := Hbm.out
                                obtain ⟨⟨n0, n1⟩, n2', n3⟩ := res_cells HZs.out.out
                                obtain ⟨⟨s0, s1⟩, s2, s3⟩ := res_cells o9
                                obtain ⟨⟨c0, c1⟩, -, -⟩ := HZs.out.ce
                                obtain ⟨⟨d0, d1⟩, -, -⟩ := hZ9.ce
                                clear hWs r9 hV9 hC9 ho9 T9 hZ9 o9 c9 hZx hPl
                                go_wp2_with (first | rw [HWs.out] | rw [HV9.out] | (at_builtin; refine wpList_append_run rfl _ _ 39 rfl _ _ rfl rfl HA9.out ?_))
                                go_roundg ((r - co1).toNat)
                                case measure => have := Hln.out.1; have := Hr0.out; omega
                                case rel =>
                                  refine ⟨_, ox, oy, r - co1, _, P ++ [(ox, oy)], rfl, Hnx.out.1, ⟨rfl, ?_⟩, HZx.out, Hnx.out.2⟩
                                  have h1 := Hln.out
                                  have h2 := Hnx.out.1.pos
                                  simp
                                  omega
                              · have HF2 : Hid (∀ d' (h8 : d' < 8), d' < dd + 1 → ¬ Gdn W H tl f c s ix iy iw ih (tx, ty) ux uy r ⟨d', h8⟩) := hide fun d' h8 h1 hg => by
                                    by_cases e2 : d' = dd
                                    · subst e2
                                      have h9 := Hgd.out.1 hg
                                      rw [← He1.out, ← He2.out, Hco.out] at h9
                                      exact heq h9.2
                                    · exact Hno.out d' h8 (by omega) hg
                                refine wp_region_lat (by kernel_rfl) (by kernel_rfl) ?_
                                repeat (go_big_quiet_step (first | (go_at_call 18; exact calls_lat (HHm.out _)) | (go_at_call 23; exact calls_lat_same (HCo.out _)) | (go_at_call 41; refine calls_lat (HAm.out _ _ _ ?_); first | exact Or.inl ⟨rfl, rfl⟩ | exact Or.inr ⟨rfl, rfl⟩)))
                                refine wpQuiet_nil ?_
                                rintro _ ⟨m, rfl⟩
                                have HZm := hide (HZ11.out.upto m.h)
                                clear HZ11
                                go_wp2_with fail
                                go_roundw
                                case rel => exact ⟨dd + 1, by go_num, by omega, HZm.out, HF2.out⟩
                                case measure => simp [intOf]; omega
                          · have hff : has ix iy iw ih ox oy = false := by simpa using hhn
                            have HHm : Hid (∀ m : Lat X11, Calls Tryz.prog 18 #[rct ix iy iw ih, cel ox oy] m.w fun e w' => e = .returned (.bool false) ∧ Below m.w.heap.size m.w w') := hide fun m => refhas_is _ hff
                            have Hhn := hide hhn
                            clear hff hhn
                            have HF2 : Hid (∀ d' (h8 : d' < 8), d' < dd + 1 → ¬ Gdn W H tl f c s ix iy iw ih (tx, ty) ux uy r ⟨d', h8⟩) := hide fun d' h8 h1 hg => by
                                by_cases e2 : d' = dd
                                · subst e2
                                  have h9 := ((lg_step (ix := ix) (iy := iy) (iw := iw) (ih := ih) h8 Hat2.out.std.2).2 ⟨hg.1, hg.2.1⟩).2
                                  rw [Hexy.out.1, Hexy.out.2] at h9
                                  exact Hhn.out h9
                                · exact Hno.out d' h8 (by omega) hg
                            refine wp_region_lat (by kernel_rfl) (by kernel_rfl) ?_
                            repeat (go_big_quiet_step (first | (go_at_call 18; exact calls_lat (HHm.out _))))
                            refine wpQuiet_nil ?_
                            rintro _ ⟨m, rfl⟩
                            have HZm := hide (HZ11.out.upto m.h)
                            clear HZ11
                            go_wp2_with fail
                            go_roundw
                            case rel => exact ⟨dd + 1, by go_num, by omega, HZm.out, HF2.out⟩
                            case measure => simp [intOf]; omega
                      · exfalso
                        obtain ⟨t, ht⟩ := Hat2.out.some HStt.out Hr0.out
                        exact Hno.out t.val t.isLt (by omega) ht
          · have hsff : stB W H tl f c s tx ty = false := by simpa using hst
            refine (HSt.out _ _ _ _ HB5.out hsff).mono ?_
            rintro e w6 ⟨rfl, hb6⟩
            have HB6 := hide (bt HB5.out hb6)
            have Hno : Hid (¬ (Std W H tl f c s ix iy iw ih (fx, fy) ∧ Std W H tl f c s ix iy iw ih (tx, ty) ∧ ∃ k, Wk (stepR W H tl f c s ix iy iw ih) (tx, ty) (fx, fy) k)) := hide fun q => hst q.2.1.2
            clear hb6 g0 g1 g2 b0 b1 HB5 HR5 hsff hst hsf
            obtain ⟨-, -, -, -, r4, r5, hBw, -⟩ := HB.out _ HB6.out
            obtain ⟨Y, hY, hc, TY⟩ := res_put r4 2 (.slice none 0 0)
            obtain ⟨⟨y0, y1⟩, y2, y3⟩ := res_cells r4
            obtain ⟨⟨y4, y5⟩, y6, y7⟩ := res_cells r5
            obtain ⟨z0, z1⟩ := hc
            have HY := hide hY
            have HE : Hid (DFindEnd W H tl f c s fx fy tx ty ix iy iw ih w (.returned (.tuple #[.agg #[.int .i64 2, .slice none 0 0], .int .i64 0])) Y) := hide ⟨2, none, 0, 0, 0, [], rfl, hBw.trans (TY.below (fun j e => by omega) hBw.size), Cn.nil _, .inr (.inl ⟨rfl, rfl, rfl, Hno.out⟩)⟩
            clear r4 r5 hBw TY hY
            go_wp2_with (first | rw [HY.out] | fail)
            refine bodyPost_ret (v := .tuple #[.agg #[.int .i64 2, .slice none 0 0], .int .i64 0]) (by simp [results, Tryz.f11, go_sem, z0, z1]) rfl ?_
            exact HE.out
        · have hsff : stB W H tl f c s fx fy = false := by simpa using hsf
          refine (HSt.out _ _ _ _ HB4.out hsff).mono ?_
          rintro e w5 ⟨rfl, hb5⟩
          have HB5 := hide (bt HB4.out hb5)
          have Hno : Hid (¬ (Std W H tl f c s ix iy iw ih (fx, fy) ∧ Std W H tl f c s ix iy iw ih (tx, ty) ∧ ∃ k, Wk (stepR W H tl f c s ix iy iw ih) (tx, ty) (fx, fy) k)) := hide fun q => hsf q.1.2
          clear hb5 g0 g1 g2 a0 a1 HB4 HR4 HX4 hsff hsf
          obtain ⟨-, -, -, -, r4, r5, hBw, -⟩ := HB.out _ HB5.out
          obtain ⟨Y, hY, hc, TY⟩ := res_put r4 2 (.slice none 0 0)
          obtain ⟨⟨y0, y1⟩, y2, y3⟩ := res_cells r4
          obtain ⟨⟨y4, y5⟩, y6, y7⟩ := res_cells r5
          obtain ⟨z0, z1⟩ := hc
          have HY := hide hY
          have HE : Hid (DFindEnd W H tl f c s fx fy tx ty ix iy iw ih w (.returned (.tuple #[.agg #[.int .i64 2, .slice none 0 0], .int .i64 0])) Y) := hide ⟨2, none, 0, 0, 0, [], rfl, hBw.trans (TY.below (fun j e => by omega) hBw.size), Cn.nil _, .inr (.inl ⟨rfl, rfl, rfl, Hno.out⟩)⟩
          clear r4 r5 hBw TY hY
          go_wp2_with (first | rw [HY.out] | fail)
          refine bodyPost_ret (v := .tuple #[.agg #[.int .i64 2, .slice none 0 0], .int .i64 0]) (by simp [results, Tryz.f11, go_sem, z0, z1]) rfl ?_
          exact HE.out
      · have hff : has ax ay aw ah tx ty = false := by simpa using hht
        refine (refhas_is _ hff).mono ?_
        rintro e w3 ⟨rfl, hb3⟩
        have HB3 := hide (bt HB2.out hb3)
        have Hno : Hid (¬ (Std W H tl f c s ix iy iw ih (fx, fy) ∧ Std W H tl f c s ix iy iw ih (tx, ty) ∧ ∃ k, Wk (stepR W H tl f c s ix iy iw ih) (tx, ty) (fx, fy) k)) := hide fun q => hht (has_meet Hm.out.1 q.2.1.1)
        clear hb3 r0 r1 r2 r3 b0 b1 HB2 hmay hhf hht hff
        obtain ⟨-, -, -, -, r4, r5, hBw, -⟩ := HB.out _ HB3.out
        obtain ⟨Y, hY, hc, TY⟩ := res_put r4 2 (.slice none 0 0)
        obtain ⟨⟨y0, y1⟩, y2, y3⟩ := res_cells r4
        obtain ⟨⟨y4, y5⟩, y6, y7⟩ := res_cells r5
        obtain ⟨z0, z1⟩ := hc
        have HY := hide hY
        have HE : Hid (DFindEnd W H tl f c s fx fy tx ty ix iy iw ih w (.returned (.tuple #[.agg #[.int .i64 2, .slice none 0 0], .int .i64 0])) Y) := hide ⟨2, none, 0, 0, 0, [], rfl, hBw.trans (TY.below (fun j e => by omega) hBw.size), Cn.nil _, .inr (.inl ⟨rfl, rfl, rfl, Hno.out⟩)⟩
        clear r4 r5 hBw TY hY
        go_wp2_with (first | rw [HY.out] | fail)
        refine bodyPost_ret (v := .tuple #[.agg #[.int .i64 2, .slice none 0 0], .int .i64 0]) (by simp [results, Tryz.f11, go_sem, z0, z1]) rfl ?_
        exact HE.out
    · have hff : has ax ay aw ah fx fy = false := by simpa using hhf
      refine (refhas_is _ hff).mono ?_
      rintro e w2 ⟨rfl, hb2⟩
      have HB2 := hide (bt HB1.out hb2)
      have Hno : Hid (¬ (Std W H tl f c s ix iy iw ih (fx, fy) ∧ Std W H tl f c s ix iy iw ih (tx, ty) ∧ ∃ k, Wk (stepR W H tl f c s ix iy iw ih) (tx, ty) (fx, fy) k)) := hide fun q => hhf (has_meet Hm.out.1 q.1.1)
      clear hb2 r0 r1 r2 r3 a0 a1 HB1 hmay hhf hff
      obtain ⟨-, -, -, -, r4, r5, hBw, -⟩ := HB.out _ HB2.out
      obtain ⟨Y, hY, hc, TY⟩ := res_put r4 2 (.slice none 0 0)
      obtain ⟨⟨y0, y1⟩, y2, y3⟩ := res_cells r4
      obtain ⟨⟨y4, y5⟩, y6, y7⟩ := res_cells r5
      obtain ⟨z0, z1⟩ := hc
      have HY := hide hY
      have HE : Hid (DFindEnd W H tl f c s fx fy tx ty ix iy iw ih w (.returned (.tuple #[.agg #[.int .i64 2, .slice none 0 0], .int .i64 0])) Y) := hide ⟨2, none, 0, 0, 0, [], rfl, hBw.trans (TY.below (fun j e => by omega) hBw.size), Cn.nil _, .inr (.inl ⟨rfl, rfl, rfl, Hno.out⟩)⟩
      clear r4 r5 hBw TY hY
      go_wp2_with (first | rw [HY.out] | fail)
      refine bodyPost_ret (v := .tuple #[.agg #[.int .i64 2, .slice none 0 0], .int .i64 0]) (by simp [results, Tryz.f11, go_sem, z0, z1]) rfl ?_
      exact HE.out
  · have hff : may ax ay aw ah = false := by simpa using hmay
    refine (refmay_is _ hff).mono ?_
    rintro e w1 ⟨rfl, hb1⟩
    have HB1 := hide hb1
    have Hno : Hid (¬ (Std W H tl f c s ix iy iw ih (fx, fy) ∧ Std W H tl f c s ix iy iw ih (tx, ty) ∧ ∃ k, Wk (stepR W H tl f c s ix iy iw ih) (tx, ty) (fx, fy) k)) := hide fun q => hmay ((has_iff _ _ _ _ _ _).1 (has_meet Hm.out.1 q.1.1)).1
    clear hb1 r0 r1 r2 r3 hmay hff
    obtain ⟨-, -, -, -, r4, r5, hBw, -⟩ := HB.out _ HB1.out
    obtain ⟨Y, hY, hc, TY⟩ := res_put r4 2 (.slice none 0 0)
    obtain ⟨⟨y0, y1⟩, y2, y3⟩ := res_cells r4
    obtain ⟨⟨y4, y5⟩, y6, y7⟩ := res_cells r5
    obtain ⟨z0, z1⟩ := hc
    have HY := hide hY
    have HE : Hid (DFindEnd W H tl f c s fx fy tx ty ix iy iw ih w (.returned (.tuple #[.agg #[.int .i64 2, .slice none 0 0], .int .i64 0])) Y) := hide ⟨2, none, 0, 0, 0, [], rfl, hBw.trans (TY.below (fun j e => by omega) hBw.size), Cn.nil _, .inr (.inl ⟨rfl, rfl, rfl, Hno.out⟩)⟩
    clear r4 r5 hBw TY hY
    go_wp2_with (first | rw [HY.out] | fail)
    refine bodyPost_ret (v := .tuple #[.agg #[.int .i64 2, .slice none 0 0], .int .i64 0]) (by simp [results, Tryz.f11, go_sem, z0, z1]) rfl ?_
    exact HE.out
end Go.Proofs.YtggaobcdogbjhaaGreatDoor
namespace Go.Proofs.YtggaobcdogbjhaaGreatDoor
open Go.RowKit Go.Shelf
set_option linter.unusedVariables false
set_option linter.unusedSimpArgs false
attribute [local go_sem] Oper.semAt_some
theorem run_callR10 {ev : Operand → Value} {o : Oper} {w : World} {ar : Array Operand} {ts : Array TypeId} {vs : Array Value} (hop : o.op = .call { callee := .value (.func 10), args := ar, argTypes := ts }) (hf : ev (.func 10) = .func (.func 10) #[] #[]) (hvs : ar.map ev = vs) : (execOp ev o).run Tryz.prog w = .ok (.enter 10 vs) w := by
  unfold execOp
  simp only [hop, resolve, hf, hvs]
  go_simp
theorem run_callR11 {ev : Operand → Value} {o : Oper} {w : World} {ar : Array Operand} {ts : Array TypeId} {vs : Array Value} (hop : o.op = .call { callee := .value (.func 11), args := ar, argTypes := ts }) (hf : ev (.func 11) = .func (.func 11) #[] #[]) (hvs : ar.map ev = vs) : (execOp ev o).run Tryz.prog w = .ok (.enter 11 vs) w := by
  unfold execOp
  simp only [hop, resolve, hf, hvs]
  go_simp
theorem run_callR17 {ev : Operand → Value} {o : Oper} {w : World} {ar : Array Operand} {ts : Array TypeId} {vs : Array Value} (hop : o.op = .call { callee := .value (.func 17), args := ar, argTypes := ts }) (hf : ev (.func 17) = .func (.func 17) #[] #[]) (hvs : ar.map ev = vs) : (execOp ev o).run Tryz.prog w = .ok (.enter 17 vs) w := by
  unfold execOp
  simp only [hop, resolve, hf, hvs]
  go_simp
theorem run_callR39 {ev : Operand → Value} {o : Oper} {w : World} {ar : Array Operand} {ts : Array TypeId} {vs : Array Value} (hop : o.op = .call { callee := .value (.func 39), args := ar, argTypes := ts }) (hf : ev (.func 39) = .func (.func 39) #[] #[]) (hvs : ar.map ev = vs) : (execOp ev o).run Tryz.prog w = .ok (.enter 39 vs) w := by
  unfold execOp
  simp only [hop, resolve, hf, hvs]
  go_simp
/-- How many cells of the rectangle are the world's. -/
theorem meet_area {ax ay aw ah W H ix iy iw ih : Int} (hm : mtV ax ay aw ah 0 0 W H = rct ix iy iw ih) (hW : W ≤ 128) (hH : H ≤ 128) : (mtB ax ay aw ah 0 0 W H = false → iw * ih = 0) ∧ 0 ≤ iw * ih ∧ iw * ih ≤ 16384 := by
  unfold mtV at hm
  split at hm
  · rename_i hB
    have hB2 := hB
    unfold mtB at hB2
    rw [Bool.and_eq_true, Bool.and_eq_true, Bool.and_eq_true, decide_eq_true_eq, decide_eq_true_eq] at hB2
    simp only [span, rct, Value.agg.injEq, Array.mk.injEq, List.cons.injEq, Value.int.injEq, true_and, and_true] at hm
    have m1 : 0 ≤ iw * ih := Int.mul_nonneg (by omega) (by omega)
    have m2 : iw * ih ≤ 128 * 128 := Int.mul_le_mul (by omega) (by omega) (by omega) (by omega)
    exact ⟨(fun h => by rw [hB] at h; cases h), m1, by omega⟩
  · simp only [zero4, rct, Value.agg.injEq, Array.mk.injEq, List.cons.injEq, Value.int.injEq, true_and, and_true] at hm
    obtain ⟨rfl, rfl, rfl, rfl⟩ := hm
    simp
set_option maxRecDepth 100000 in
set_option maxHeartbeats 4000000 in
theorem cellsN_is {w : World} {r : Nat} {W H : Int} {tl : List Nat} {L : List Bd} {ax ay aw ah ix iy iw ih : Int} (hw : Rl w r W H tl L) (hm : mtV ax ay aw ah 0 0 W H = rct ix iy iw ih) (hW : W ≤ 128) (hH : H ≤ 128) :
    Calls Tryz.prog 13 #[ptr r, rct ax ay aw ah] w fun e w' => e = .returned (.int .i64 (iw * ih)) ∧ Below w.heap.size w w' := by
  obtain ⟨X, hX⟩ : ∃ X, w.alloc (.cells #[.int .i64 ax, .int .i64 ay, .int .i64 aw, .int .i64 ah] 31) = X := ⟨_, rfl⟩
  have B0 : Below w.heap.size w X := hX ▸ box1 _ _
  have F3 : Four X w.heap.size ax ay aw ah := by rw [← hX]; exact Four.newAt _ _ _ _ _ rfl
  have HK : Hid (∀ wx, Below X.heap.size X wx → (fun wx : World => wx.cell? ⟨w.heap.size, 0, none⟩ = some (.int .i64 ax) ∧ wx.cell? ⟨w.heap.size, 1, none⟩ = some (.int .i64 ay) ∧ wx.cell? ⟨w.heap.size, 2, none⟩ = some (.int .i64 aw) ∧ wx.cell? ⟨w.heap.size, 3, none⟩ = some (.int .i64 ah)) wx) := hide fun wx q => (F3.kept q).1
  have HS : (fun wx : World => wx.cell? ⟨w.heap.size, 0, none⟩ = some (.int .i64 ax) ∧ wx.cell? ⟨w.heap.size, 1, none⟩ = some (.int .i64 ay) ∧ wx.cell? ⟨w.heap.size, 2, none⟩ = some (.int .i64 aw) ∧ wx.cell? ⟨w.heap.size, 3, none⟩ = some (.int .i64 ah)) X.drew := HK.out _ (Below.refl _ _).drew
  obtain ⟨mb, hmb⟩ : ∃ mb, mtB ax ay aw ah 0 0 W H = mb := ⟨_, rfl⟩
  have HAl : Hid (∀ wx, Below X.heap.size X wx → Calls Tryz.prog 17 #[ptr r] wx fun e w' => e = .returned (rct 0 0 W H) ∧ Below wx.heap.size wx w') := hide fun wx q => refall_is (hw.kept (bt B0 q))
  have HMt : Hid (∀ wx, Calls Tryz.prog 39 #[rct ax ay aw ah, rct 0 0 W H] wx fun e w' => e = .returned (.tuple #[rct ix iy iw ih, .bool mb]) ∧ Below wx.heap.size wx w') := hide fun wx => by
    have := refmeet_any ax ay aw ah 0 0 W H wx
    rwa [hm, hmb] at this
  have Har := hide (meet_area hm hW hH)
  rw [hmb] at Har
  have HX := hide hX
  have HB0 := hide B0
  clear hX B0 F3 hw hm hW hH hmb
  go_enter Tryz.func13, Tryz.ntmps13
  go_wp2_with (rw [HX.out])
  go_cut [5, 6] (fun v u wx => ∃ k, v = ptr k ∧ u = .bool mb ∧ Below X.heap.size X wx ∧ Four wx k ix iy iw ih)
  case first =>
    rename_i J K' hJ hK'
    refine wp_only ?_
    refine wp_region_z (fun wx : World => wx.cell? ⟨w.heap.size, 0, none⟩ = some (.int .i64 ax) ∧ wx.cell? ⟨w.heap.size, 1, none⟩ = some (.int .i64 ay) ∧ wx.cell? ⟨w.heap.size, 2, none⟩ = some (.int .i64 aw) ∧ wx.cell? ⟨w.heap.size, 3, none⟩ = some (.int .i64 ah)) [] (by kernel_rfl) ?_
    refine anyZ_take 0 9 (v := rct ax ay aw ah) rfl (by kernel_rfl) (fun _ _ _ h => h.elim) (Or.inl ⟨by rfl, fun wx hx => by obtain ⟨q0, q1, q2, q3⟩ := hx; clear HS; go_simp⟩) HS ?_
    try simp only [Act.put, List.getElem_toArray, List.getElem_cons_zero, List.getElem_cons_succ, List.setIfInBounds_toArray, List.set_cons_zero, List.set_cons_succ]
    refine anyZ_take 1 9 (v := ptr r) rfl (by kernel_rfl) (fun _ _ _ h => h.elim) (Or.inl ⟨by rfl, fun wx hx => by obtain ⟨q0, q1, q2, q3⟩ := hx; clear HS; go_simp⟩) HS ?_
    try simp only [Act.put, List.getElem_toArray, List.getElem_cons_zero, List.getElem_cons_succ, List.setIfInBounds_toArray, List.set_cons_zero, List.set_cons_succ]
    have W0b : Below X.heap.size X X.drew := (Below.refl _ _).drew
    obtain ⟨W0, hW0⟩ : ∃ W0, X.drew = W0 := ⟨_, rfl⟩
    rw [hW0] at W0b ⊢
    clear hW0 HS
    refine anyZ_ready (rs := [2, 7]) (by kernel_rfl) (by simp) ?_
    refine readyZ.call rfl rfl (run_callR17 (by rfl) (by rfl) (by simp only [List.map_toArray, List.map_cons, List.map_nil]; rfl)) (HAl.out _ W0b) ?_ ?_
    · rintro e W1 ⟨rfl, b2⟩
      have W1b : Below X.heap.size X W1 := bt W0b b2
      refine ⟨_, rfl, fun _ => HK.out _ W1b, ?_⟩
      try simp only [Act.put, List.getElem_toArray, List.getElem_cons_zero, List.getElem_cons_succ, List.setIfInBounds_toArray, List.set_cons_zero, List.set_cons_succ]
      refine anyZ_ready (rs := [3, 7]) (by kernel_rfl) (by simp) ?_
      refine readyZ.call rfl rfl (run_callR39 (by rfl) (by rfl) (by simp only [List.map_toArray, List.map_cons, List.map_nil]; rfl)) (HMt.out _) ?_ ?_
      · rintro e W2 ⟨rfl, b3⟩
        have W2b : Below X.heap.size X W2 := bt W1b b3
        refine ⟨_, rfl, fun _ => HK.out _ W2b, ?_⟩
        try simp only [Act.put, List.getElem_toArray, List.getElem_cons_zero, List.getElem_cons_succ, List.setIfInBounds_toArray, List.set_cons_zero, List.set_cons_succ]
        refine anyZ_take 4 9 (v := .tuple #[rct ix iy iw ih, .bool mb]) rfl (by kernel_rfl) (fun _ _ _ h => h.elim) (Or.inl ⟨by rfl, fun wx hx => by go_simp⟩) (HK.out _ W2b) ?_
        try simp only [Act.put, List.getElem_toArray, List.getElem_cons_zero, List.getElem_cons_succ, List.setIfInBounds_toArray, List.set_cons_zero, List.set_cons_succ]
        refine anyZ_take 5 9 (v := rct ix iy iw ih) rfl (by kernel_rfl) (fun _ _ _ h => h.elim) (Or.inl ⟨by rfl, fun wx hx => by go_simp⟩) (HK.out _ W2b) ?_
        try simp only [Act.put, List.getElem_toArray, List.getElem_cons_zero, List.getElem_cons_succ, List.setIfInBounds_toArray, List.set_cons_zero, List.set_cons_succ]
        refine anyZ_take 6 9 (v := .bool mb) rfl (by kernel_rfl) (fun _ _ _ h => h.elim) (Or.inl ⟨by rfl, fun wx hx => by go_simp⟩) (HK.out _ W2b) ?_
        try simp only [Act.put, List.getElem_toArray, List.getElem_cons_zero, List.getElem_cons_succ, List.setIfInBounds_toArray, List.set_cons_zero, List.set_cons_succ]
        refine anyZ_ready (rs := [7]) (by kernel_rfl) (by simp) ?_
        obtain ⟨W3, h7⟩ : ∃ W, W2.alloc (.cells #[.int .i64 0, .int .i64 0, .int .i64 0, .int .i64 0] 31) = W := ⟨_, rfl⟩
        have b7 : Below W2.heap.size W2 W3 := h7 ▸ box1 _ _
        have W3b : Below X.heap.size X W3 := bt W2b b7
        have f7 : Four W3 W2.heap.size 0 0 0 0 := by rw [← h7]; exact Four.new _ _ _ _ _ _
        have z7 := W2b.size
        refine readyZ.cons rfl rfl (h7 ▸ run_alloc31 (by rfl)) (fun _ => HK.out _ W3b) ?_ readyZ.nil
        try simp only [Act.put, List.getElem_toArray, List.getElem_cons_zero, List.getElem_cons_succ, List.setIfInBounds_toArray, List.set_cons_zero, List.set_cons_succ]
        clear h7
        generalize W2.heap.size = kk at f7 z7 ⊢
        refine anyZ_ready (rs := [8]) (by kernel_rfl) (by simp) ?_
        obtain ⟨WY, hWY⟩ : ∃ W, (((W3.setCell ⟨kk, 0, none⟩ (.int .i64 ix)).setCell ⟨kk, 1, none⟩ (.int .i64 iy)).setCell ⟨kk, 2, none⟩ (.int .i64 iw)).setCell ⟨kk, 3, none⟩ (.int .i64 ih) = W := ⟨_, rfl⟩
        have fY : Four WY kk ix iy iw ih := hWY ▸ f7.set ix iy iw ih
        have bY : Below X.heap.size X WY := W3b.trans ((hWY ▸ turns_four W3 kk _ _ _ _ : Turns (fun j => j = kk) W3 WY).below (fun j e => by omega) W3b.size)
        refine readyZ.skip rfl rfl (hWY ▸ run_put31 (by rfl) (by rfl) (by rfl) f7) (fun _ => HK.out _ bY) ?_ readyZ.nil
        try simp only [Act.put, List.getElem_toArray, List.getElem_cons_zero, List.getElem_cons_succ, List.setIfInBounds_toArray, List.set_cons_zero, List.set_cons_succ]
        refine anyZ_take 9 9 (v := .bool mb) rfl (by kernel_rfl) (fun _ _ _ h => h.elim) (Or.inl ⟨by rfl, fun wx hx => by go_simp⟩) (HK.out _ bY) ?_
        try simp only [Act.put, List.getElem_toArray, List.getElem_cons_zero, List.getElem_cons_succ, List.setIfInBounds_toArray, List.set_cons_zero, List.set_cons_succ]
        refine anyZ_done (by kernel_rfl) ?_ _
        dsimp only [Only, Exit.then]
        clear hWY
        have HE := hide (And.intro bY fY)
        clear bY fY f7 z7
        refine hK' _ _ (Met.intro (hJ _ _ ?_))
        (repeat apply Exists.intro)
        exact ⟨⟨kk, rfl, rfl, HE.out⟩, rfl⟩
      obtain ⟨W2, h7⟩ : ∃ W, W1.alloc (.cells #[.int .i64 0, .int .i64 0, .int .i64 0, .int .i64 0] 31) = W := ⟨_, rfl⟩
      have b7 : Below W1.heap.size W1 W2 := h7 ▸ box1 _ _
      have W2b : Below X.heap.size X W2 := bt W1b b7
      have f7 : Four W2 W1.heap.size 0 0 0 0 := by rw [← h7]; exact Four.new _ _ _ _ _ _
      have z7 := W1b.size
      refine readyZ.cons rfl rfl (h7 ▸ run_alloc31 (by rfl)) (fun _ => HK.out _ W2b) ?_ readyZ.nil
      try simp only [Act.put, List.getElem_toArray, List.getElem_cons_zero, List.getElem_cons_succ, List.setIfInBounds_toArray, List.set_cons_zero, List.set_cons_succ]
      clear h7
      generalize W1.heap.size = kk at f7 z7 ⊢
      refine anyZ_ready (rs := [3]) (by kernel_rfl) (by simp) ?_
      refine readyZ.call rfl rfl (run_callR39 (by rfl) (by rfl) (by simp only [List.map_toArray, List.map_cons, List.map_nil]; rfl)) (HMt.out _) ?_ readyZ.nil
      rintro e W3 ⟨rfl, b3⟩
      have W3b : Below X.heap.size X W3 := bt W2b b3
      refine ⟨_, rfl, fun _ => HK.out _ W3b, ?_⟩
      try simp only [Act.put, List.getElem_toArray, List.getElem_cons_zero, List.getElem_cons_succ, List.setIfInBounds_toArray, List.set_cons_zero, List.set_cons_succ]
      have f7 := f7.kept b3
      refine anyZ_take 4 9 (v := .tuple #[rct ix iy iw ih, .bool mb]) rfl (by kernel_rfl) (fun _ _ _ h => h.elim) (Or.inl ⟨by rfl, fun wx hx => by go_simp⟩) (HK.out _ W3b) ?_
      try simp only [Act.put, List.getElem_toArray, List.getElem_cons_zero, List.getElem_cons_succ, List.setIfInBounds_toArray, List.set_cons_zero, List.set_cons_succ]
      refine anyZ_take 5 9 (v := rct ix iy iw ih) rfl (by kernel_rfl) (fun _ _ _ h => h.elim) (Or.inl ⟨by rfl, fun wx hx => by go_simp⟩) (HK.out _ W3b) ?_
      try simp only [Act.put, List.getElem_toArray, List.getElem_cons_zero, List.getElem_cons_succ, List.setIfInBounds_toArray, List.set_cons_zero, List.set_cons_succ]
      refine anyZ_take 6 9 (v := .bool mb) rfl (by kernel_rfl) (fun _ _ _ h => h.elim) (Or.inl ⟨by rfl, fun wx hx => by go_simp⟩) (HK.out _ W3b) ?_
      try simp only [Act.put, List.getElem_toArray, List.getElem_cons_zero, List.getElem_cons_succ, List.setIfInBounds_toArray, List.set_cons_zero, List.set_cons_succ]
      refine anyZ_ready (rs := [8]) (by kernel_rfl) (by simp) ?_
      obtain ⟨WY, hWY⟩ : ∃ W, (((W3.setCell ⟨kk, 0, none⟩ (.int .i64 ix)).setCell ⟨kk, 1, none⟩ (.int .i64 iy)).setCell ⟨kk, 2, none⟩ (.int .i64 iw)).setCell ⟨kk, 3, none⟩ (.int .i64 ih) = W := ⟨_, rfl⟩
      have fY : Four WY kk ix iy iw ih := hWY ▸ f7.set ix iy iw ih
      have bY : Below X.heap.size X WY := W3b.trans ((hWY ▸ turns_four W3 kk _ _ _ _ : Turns (fun j => j = kk) W3 WY).below (fun j e => by omega) W3b.size)
      refine readyZ.skip rfl rfl (hWY ▸ run_put31 (by rfl) (by rfl) (by rfl) f7) (fun _ => HK.out _ bY) ?_ readyZ.nil
      try simp only [Act.put, List.getElem_toArray, List.getElem_cons_zero, List.getElem_cons_succ, List.setIfInBounds_toArray, List.set_cons_zero, List.set_cons_succ]
      refine anyZ_take 9 9 (v := .bool mb) rfl (by kernel_rfl) (fun _ _ _ h => h.elim) (Or.inl ⟨by rfl, fun wx hx => by go_simp⟩) (HK.out _ bY) ?_
      try simp only [Act.put, List.getElem_toArray, List.getElem_cons_zero, List.getElem_cons_succ, List.setIfInBounds_toArray, List.set_cons_zero, List.set_cons_succ]
      refine anyZ_done (by kernel_rfl) ?_ _
      dsimp only [Only, Exit.then]
      clear hWY
      have HE := hide (And.intro bY fY)
      clear bY fY f7 z7
      refine hK' _ _ (Met.intro (hJ _ _ ?_))
      (repeat apply Exists.intro)
      exact ⟨⟨kk, rfl, rfl, HE.out⟩, rfl⟩
    obtain ⟨W1, h7⟩ : ∃ W, W0.alloc (.cells #[.int .i64 0, .int .i64 0, .int .i64 0, .int .i64 0] 31) = W := ⟨_, rfl⟩
    have b7 : Below W0.heap.size W0 W1 := h7 ▸ box1 _ _
    have W1b : Below X.heap.size X W1 := bt W0b b7
    have f7 : Four W1 W0.heap.size 0 0 0 0 := by rw [← h7]; exact Four.new _ _ _ _ _ _
    have z7 := W0b.size
    refine readyZ.cons rfl rfl (h7 ▸ run_alloc31 (by rfl)) (fun _ => HK.out _ W1b) ?_ readyZ.nil
    try simp only [Act.put, List.getElem_toArray, List.getElem_cons_zero, List.getElem_cons_succ, List.setIfInBounds_toArray, List.set_cons_zero, List.set_cons_succ]
    clear h7
    generalize W0.heap.size = kk at f7 z7 ⊢
    refine anyZ_ready (rs := [2]) (by kernel_rfl) (by simp) ?_
    refine readyZ.call rfl rfl (run_callR17 (by rfl) (by rfl) (by simp only [List.map_toArray, List.map_cons, List.map_nil]; rfl)) (HAl.out _ W1b) ?_ readyZ.nil
    rintro e W2 ⟨rfl, b2⟩
    have W2b : Below X.heap.size X W2 := bt W1b b2
    refine ⟨_, rfl, fun _ => HK.out _ W2b, ?_⟩
    try simp only [Act.put, List.getElem_toArray, List.getElem_cons_zero, List.getElem_cons_succ, List.setIfInBounds_toArray, List.set_cons_zero, List.set_cons_succ]
    have f7 := f7.kept b2
    refine anyZ_ready (rs := [3]) (by kernel_rfl) (by simp) ?_
    refine readyZ.call rfl rfl (run_callR39 (by rfl) (by rfl) (by simp only [List.map_toArray, List.map_cons, List.map_nil]; rfl)) (HMt.out _) ?_ readyZ.nil
    rintro e W3 ⟨rfl, b3⟩
    have W3b : Below X.heap.size X W3 := bt W2b b3
    refine ⟨_, rfl, fun _ => HK.out _ W3b, ?_⟩
    try simp only [Act.put, List.getElem_toArray, List.getElem_cons_zero, List.getElem_cons_succ, List.setIfInBounds_toArray, List.set_cons_zero, List.set_cons_succ]
    have f7 := f7.kept b3
    refine anyZ_take 4 9 (v := .tuple #[rct ix iy iw ih, .bool mb]) rfl (by kernel_rfl) (fun _ _ _ h => h.elim) (Or.inl ⟨by rfl, fun wx hx => by go_simp⟩) (HK.out _ W3b) ?_
    try simp only [Act.put, List.getElem_toArray, List.getElem_cons_zero, List.getElem_cons_succ, List.setIfInBounds_toArray, List.set_cons_zero, List.set_cons_succ]
    refine anyZ_take 5 9 (v := rct ix iy iw ih) rfl (by kernel_rfl) (fun _ _ _ h => h.elim) (Or.inl ⟨by rfl, fun wx hx => by go_simp⟩) (HK.out _ W3b) ?_
    try simp only [Act.put, List.getElem_toArray, List.getElem_cons_zero, List.getElem_cons_succ, List.setIfInBounds_toArray, List.set_cons_zero, List.set_cons_succ]
    refine anyZ_take 6 9 (v := .bool mb) rfl (by kernel_rfl) (fun _ _ _ h => h.elim) (Or.inl ⟨by rfl, fun wx hx => by go_simp⟩) (HK.out _ W3b) ?_
    try simp only [Act.put, List.getElem_toArray, List.getElem_cons_zero, List.getElem_cons_succ, List.setIfInBounds_toArray, List.set_cons_zero, List.set_cons_succ]
    refine anyZ_ready (rs := [8]) (by kernel_rfl) (by simp) ?_
    obtain ⟨WY, hWY⟩ : ∃ W, (((W3.setCell ⟨kk, 0, none⟩ (.int .i64 ix)).setCell ⟨kk, 1, none⟩ (.int .i64 iy)).setCell ⟨kk, 2, none⟩ (.int .i64 iw)).setCell ⟨kk, 3, none⟩ (.int .i64 ih) = W := ⟨_, rfl⟩
    have fY : Four WY kk ix iy iw ih := hWY ▸ f7.set ix iy iw ih
    have bY : Below X.heap.size X WY := W3b.trans ((hWY ▸ turns_four W3 kk _ _ _ _ : Turns (fun j => j = kk) W3 WY).below (fun j e => by omega) W3b.size)
    refine readyZ.skip rfl rfl (hWY ▸ run_put31 (by rfl) (by rfl) (by rfl) f7) (fun _ => HK.out _ bY) ?_ readyZ.nil
    try simp only [Act.put, List.getElem_toArray, List.getElem_cons_zero, List.getElem_cons_succ, List.setIfInBounds_toArray, List.set_cons_zero, List.set_cons_succ]
    refine anyZ_take 9 9 (v := .bool mb) rfl (by kernel_rfl) (fun _ _ _ h => h.elim) (Or.inl ⟨by rfl, fun wx hx => by go_simp⟩) (HK.out _ bY) ?_
    try simp only [Act.put, List.getElem_toArray, List.getElem_cons_zero, List.getElem_cons_succ, List.setIfInBounds_toArray, List.set_cons_zero, List.set_cons_succ]
    refine anyZ_done (by kernel_rfl) ?_ _
    dsimp only [Only, Exit.then]
    clear hWY
    have HE := hide (And.intro bY fY)
    clear bY fY f7 z7
    refine hK' _ _ (Met.intro (hJ _ _ ?_))
    (repeat apply Exists.intro)
    exact ⟨⟨kk, rfl, rfl, HE.out⟩, rfl⟩
  case rest =>
    clear HAl HMt HS
    obtain ⟨kk, rfl, rfl, hB, hF⟩ := hcut
    have HE := hide (bt HB0.out hB)
    obtain ⟨⟨g0, g1, g2, g3⟩, -, -⟩ := hF
    clear hB HK
    cases mb
    · have H0 : Hid (iw * ih = 0) := hide (Har.out.1 rfl)
      go_wp2_with fail
      go_ret
      exact ⟨ret_int H0.out.symm, HE.out⟩
    · have hwm : IntKind.i64.wrap (iw * ih) = iw * ih := IntWalk.i64_in _ (by have := Har.out.2; omega)
      go_wp2_with fail
      go_ret
      exact ⟨rfl, HE.out⟩
set_option maxHeartbeats 1000000 in
theorem same_yes {w : World} {o : Int} {va vb : Value} {P : List (Int × Int)} (ha : CeR w va P) (hb : CeR w vb P) :
    Calls Tryz.prog 14 #[.agg #[.int .i64 o, va], .agg #[.int .i64 o, vb]] w fun e w' => e = .returned (.bool true) ∧ Below w.heap.size w w' := by
  have ha' := ha
  have hb' := hb
  obtain ⟨a, cap, rfl, -⟩ := ha'
  obtain ⟨b, capb, rfl, -⟩ := hb'
  obtain ⟨X, hX⟩ : ∃ X, (w.alloc (.cells #[.int .i64 o, .slice a P.length cap] 41)).alloc (.cells #[.int .i64 o, .slice b P.length capb] 41) = X := ⟨_, rfl⟩
  have B0 : Below w.heap.size w X := hX ▸ box2 _ _ _
  have R0 : X.heap[w.heap.size]? = some (.cells #[.int .i64 o, .slice a P.length cap] 41) := by
    rw [← hX]
    exact ((box1 _ _).block _ (by simp)).trans (heap_alloc_new w _)
  have R1 : X.heap[w.heap.size + 1]? = some (.cells #[.int .i64 o, .slice b P.length capb] 41) := by
    rw [← hX]
    have := heap_alloc_new (w.alloc (.cells #[.int .i64 o, .slice a P.length cap] 41)) (.cells #[.int .i64 o, .slice b P.length capb] 41)
    simpa using this
  obtain ⟨⟨c0, c1⟩, -, -⟩ := res_cells R0
  obtain ⟨⟨d0, d1⟩, -, -⟩ := res_cells R1
  have HC := hide (refcells_yes _ _ P X (ha.kept B0) (hb.kept B0))
  have HX := hide hX
  have HB := hide B0
  clear ha hb hX B0 R0 R1
  go_enter Tryz.func14, Tryz.ntmps14
  go_wp2_with (first | rw [HX.out] | fail)
  refine HC.out.mono ?_
  rintro e w1 ⟨rfl, hb1⟩
  have HE := hide (bt HB.out hb1)
  clear c0 c1 d0 d1 hb1
  go_wp2_with fail
  go_ret
  exact ⟨rfl, HE.out⟩
theorem run_alloc41 {ev : Operand → Value} {o : Oper} {w : World} (ho : o.op = .alloc 41) : (execOp ev o).run Tryz.prog w = .ok (.value (ptr w.heap.size)) (w.alloc (.cells #[.int .i64 0, .slice none 0 0] 41)) := by
  unfold execOp
  rw [ho]
  go_simp
theorem run_put41 {ev : Operand → Value} {o : Oper} {w : World} {x y : Operand} {k : Nat} {a b : Int} {va vb : Option Addr} {na nb ca cb : Nat} (ho : o.op = .store 41 x y) (hx : ev x = ptr k) (hy : ev y = .agg #[.int .i64 b, .slice vb nb cb]) (hF : w.heap[k]? = some (.cells #[.int .i64 a, .slice va na ca] 41)) :
    (execOp ev o).run Tryz.prog w = .ok .skip ((w.setCell ⟨k, 0, none⟩ (.int .i64 b)).setCell ⟨k, 1, none⟩ (.slice vb nb cb)) := by
  obtain ⟨⟨c0, c1⟩, f0, f1⟩ := res_cells hF
  unfold execOp
  rw [ho]
  simp only [hx, hy]
  go_simp
theorem res_row {w : World} {a : Nat} {o : Int} {v : Value} (h : w.heap[a]? = some (.cells #[.int .i64 o, v] 41)) (o' : Int) (v' : Value) : ((w.setCell ⟨a, 0, none⟩ (.int .i64 o')).setCell ⟨a, 1, none⟩ v').heap[a]? = some (.cells #[.int .i64 o', v'] 41) := by
  simp [World.setCell, Array.getElem?_modify, h]
theorem Cn.past41 {w : World} {k : Nat} {o : Int} {u v : Value} {P : List (Int × Int)} (h : Cn w v P) (hk : w.heap[k]? = some (.cells #[.int .i64 o, u] 41)) : ∀ j, v.ownBlock = some j → ¬ j = k := fun j e q => by
  obtain ⟨cur, hcur⟩ := row_cells h e
  rw [q, hk] at hcur
  simp at hcur
/-- A shape that may not be stands nowhere. -/
theorem st_may {W H : Int} {tl : List Nat} {f : Int → Int → Option Int} {c s u v : Int} (h : stB W H tl f c s u v = true) : shB c s = true := by
  simp only [stB, stU, wi, Bool.and_eq_true] at h
  obtain ⟨⟨hm, h1, -⟩, -⟩ := h
  cases hb : fB c s u v
  · rw [fi_no hb] at hm
    have := ((may_iff _ _ _ _).1 hm).2.1
    rw [fi_no hb] at this
    omega
  · unfold fB at hb
    rw [Bool.and_eq_true] at hb
    exact hb.1
theorem Cn.ceR0 {w : World} (h : Cn w (.slice none 0 0) []) : CeR w (.slice none 0 0) [] := (h.ceR (by simp)).1
set_option maxRecDepth 100000 in
set_option maxHeartbeats 4000000 in
theorem finds_is (W H : Int) (tv bv : Value) (tl : List Nat) (L : List Bd) (c s fx fy tx ty ax ay aw ah bu : Int) (w : World) (hv : TlR w tv tl) (hb : ∀ x ∈ tl, x < 256) (hl : BdR w bv L) (hg : Grnd w) (ho : Offs w) (hbu : -9223372036854775808 ≤ bu ∧ bu ≤ 9223372036854775807) :
    Calls Tryz.prog 3 #[mp W H tv bv, .agg #[.int .i64 c, .int .i64 s, .int .i64 fx, .int .i64 fy, .int .i64 tx, .int .i64 ty, .int .i64 ax, .int .i64 ay, .int .i64 aw, .int .i64 ah, .int .i64 bu]] w fun e w' => e = .returned (.bool true) ∧ Below w.heap.size w w' := by
  obtain ⟨X, hX⟩ : ∃ X, (w.alloc (.cells #[.int .i64 W, .int .i64 H, tv, bv] 25)).alloc (.cells #[.int .i64 c, .int .i64 s, .int .i64 fx, .int .i64 fy, .int .i64 tx, .int .i64 ty, .int .i64 ax, .int .i64 ay, .int .i64 aw, .int .i64 ah, .int .i64 bu] 33) = X := ⟨_, rfl⟩
  have B0 : Below w.heap.size w X := hX ▸ box2 _ _ _
  have M0 : MB X w.heap.size W H tv bv := by rw [← hX]; exact (MB.new w W H tv bv).kept (box1 _ _)
  have A0 : X.heap[w.heap.size + 1]? = some (.cells #[.int .i64 c, .int .i64 s, .int .i64 fx, .int .i64 fy, .int .i64 tx, .int .i64 ty, .int .i64 ax, .int .i64 ay, .int .i64 aw, .int .i64 ah, .int .i64 bu] 33) := by
    rw [← hX]
    have := heap_alloc_new (w.alloc (.cells #[.int .i64 W, .int .i64 H, tv, bv] 25)) (.cells #[.int .i64 c, .int .i64 s, .int .i64 fx, .int .i64 fy, .int .i64 tx, .int .i64 ty, .int .i64 ax, .int .i64 ay, .int .i64 aw, .int .i64 ah, .int .i64 bu] 33)
    simpa using this
  have HC : Hid (∀ wx, Below X.heap.size X wx → (wx.cell? ⟨w.heap.size, 0, none⟩ = some (.int .i64 W) ∧ wx.cell? ⟨w.heap.size, 1, none⟩ = some (.int .i64 H) ∧ wx.cell? ⟨w.heap.size, 2, none⟩ = some tv ∧ wx.cell? ⟨w.heap.size, 3, none⟩ = some bv) ∧
      (wx.cell? ⟨w.heap.size + 1, 0, none⟩ = some (.int .i64 c) ∧ wx.cell? ⟨w.heap.size + 1, 1, none⟩ = some (.int .i64 s)) ∧ (wx.cell? ⟨w.heap.size + 1, 2, none⟩ = some (.int .i64 fx) ∧ wx.cell? ⟨w.heap.size + 1, 3, none⟩ = some (.int .i64 fy)) ∧ (wx.cell? ⟨w.heap.size + 1, 4, none⟩ = some (.int .i64 tx) ∧ wx.cell? ⟨w.heap.size + 1, 5, none⟩ = some (.int .i64 ty)) ∧
      (wx.cell? ⟨w.heap.size + 1, 6, none⟩ = some (.int .i64 ax) ∧ wx.cell? ⟨w.heap.size + 1, 7, none⟩ = some (.int .i64 ay) ∧ wx.cell? ⟨w.heap.size + 1, 8, none⟩ = some (.int .i64 aw) ∧ wx.cell? ⟨w.heap.size + 1, 9, none⟩ = some (.int .i64 ah)) ∧ wx.cell? ⟨w.heap.size + 1, 10, none⟩ = some (.int .i64 bu)) := hide fun wx q => by
    have A := (q.block _ (Array.getElem?_eq_some_iff.1 A0).1).trans A0
    refine ⟨(M0.kept q).c, ⟨?_, ?_⟩, ⟨?_, ?_⟩, ⟨?_, ?_⟩, ⟨?_, ?_, ?_, ?_⟩, ?_⟩ <;> (rw [cell_of_row _ _ _ _ _ _ A]; rfl)
  have HAw : Hid (∀ wx, Below w.heap.size w wx → Calls Tryz.prog 8 #[] wx fun e w' => e = .returned (.bool true) ∧ Below wx.heap.size wx w') := hide fun wx q => awake_is wx (hg.kept q) (ho.kept q)
  have HB0 := hide B0
  have HX := hide hX
  obtain ⟨⟨m0, m1, m2, m3⟩, ⟨a0, a1⟩, ⟨a2, a3⟩, ⟨a4, a5⟩, ⟨a6, a7, a8, a9⟩, a10⟩ := HC.out X (Below.refl _ _)
  have hvf := hv
  have hlf := hl
  obtain ⟨sa1, cap1, rfl, -⟩ := hvf
  obtain ⟨sa2, cap2, rfl, -⟩ := hlf
  rcases chkC_two W H tl L with hc | hc
  · obtain ⟨hmt, -⟩ := chkC_zero hc
    obtain ⟨⟨hW0, hW⟩, hH0, hH⟩ := mt_small hmt
    have hWH : 0 ≤ W * H ∧ W * H ≤ 128 * 128 := ⟨Int.mul_nonneg hW0 hH0, Int.mul_le_mul hW hH hH0 (by omega)⟩
    have hwm : IntKind.i64.wrap (W * H) = W * H := IntWalk.i64_in _ (by omega)
    have HBo := hide (both_ok W H _ _ tl L X (hv.kept B0) hb (hl.kept B0) hc)
    have Hgo := hide (And.intro hg (And.intro ho (And.intro hW hH)))
    have HFi : Hid (∀ (w1 : World) (ix iy iw ih : Int) (pp : Nat), Wl w1 pp W H tl (whoF L) → Below w.heap.size w w1 → mtV ax ay aw ah 0 0 W H = rct ix iy iw ih → Calls Tryz.prog 9 #[ptr pp, shv c s, cel fx fy, cel tx ty, rct ax ay aw ah, .int .i64 bu] w1 fun e w' => ∃ (o : Int) (va : Option Addr) (vn vc : Nat) (cost : Int) (P : List (Int × Int)), e = .returned (.tuple #[.agg #[.int .i64 o, .slice va vn vc], .int .i64 cost]) ∧ Below w1.heap.size w1 w' ∧ (Cn w' (.slice va vn vc) P ∧ ∀ j, (Value.slice va vn vc).ownBlock = some j → w1.heap.size ≤ j) ∧ Finds W H tl (whoF L) c s ix iy iw ih fx fy tx ty bu o cost P) := hide fun w1 ix iy iw ih pp q1 q2 q3 => (find_is pp W H tl (whoF L) c s fx fy tx ty ax ay aw ah ix iy iw ih bu w1 q1 (hg.kept q2) (ho.kept q2) hW hH q3 hbu).mono (fun e w' h => h.way q3 hW hH)
    have HOf : Hid (∀ (w1 : World) (r : Nat), Rl w1 r W H tl L → Calls Tryz.prog 10 #[ptr r, shv c s] w1 fun e w' => ∃ a n cap, e = .returned (.agg #[.int .i64 W, .int .i64 H, .slice a n cap]) ∧ Grd w' W H tl (whoF L) c s (.slice a n cap) ∧ Below w1.heap.size w1 w') := hide fun w1 r q => of_is c s q hc
    have HDf : Hid (∀ (w1 : World) (a : Option Addr) (n cap : Nat) (ix iy iw ih : Int), W * H ≤ 700 → Grd w1 W H tl (whoF L) c s (.slice a n cap) → mtV ax ay aw ah 0 0 W H = rct ix iy iw ih → Calls Tryz.prog 11 #[.agg #[.int .i64 W, .int .i64 H, .slice a n cap], cel fx fy, cel tx ty, rct ax ay aw ah] w1 (DFindEnd W H tl (whoF L) c s fx fy tx ty ix iy iw ih w1)) := hide fun w1 a n cap ix iy iw ih q0 q1 q2 => dfind_is q1 (by omega) q2
    have HCe : Hid (∀ (w1 : World) (r : Nat) (ix iy iw ih : Int), Rl w1 r W H tl L → mtV ax ay aw ah 0 0 W H = rct ix iy iw ih → Calls Tryz.prog 13 #[ptr r, rct ax ay aw ah] w1 fun e w' => e = .returned (.int .i64 (iw * ih)) ∧ Below w1.heap.size w1 w') := hide fun w1 r ix iy iw ih q1 q2 => cellsN_is q1 q2 hW hH
    have Hbu := hide hbu
    clear hbu
    clear hX B0 M0 A0 hv hl hb hg ho hc hmt hW0 hH0 hW hH
    go_enter Tryz.func3, Tryz.ntmps3
    go_wp2_with (first | rw [HX.out] | fail)
    refine HBo.out.mono ?_
    rintro e w1 ⟨p, r, rfl, hWn, hRl, hb1⟩
    have HW0 := hide hWn.1
    have HR0 := hide hRl
    have HP0 := hide hb1
    clear m0 m1 m2 m3 a0 a1 a2 a3 a4 a5 a6 a7 a8 a9 a10 HBo hWn hRl hb1
    obtain ⟨⟨m0, m1, m2, m3⟩, ⟨a0, a1⟩, ⟨a2, a3⟩, ⟨a4, a5⟩, ⟨a6, a7, a8, a9⟩, a10⟩ := HC.out w1 HP0.out
    by_cases hA : 700 < W * H
    · go_wp2_with fail
      refine (HAw.out _ (bt HB0.out HP0.out)).mono ?_
      rintro e w9 ⟨rfl, hb9⟩
      have HE := hide (bt (bt HB0.out HP0.out) hb9)
      clear hb9
      go_wp2_with fail
      go_ret
      exact ⟨rfl, HE.out⟩
    · obtain ⟨ix, iy, iw, ih, hmt⟩ := mtV_rect ax ay aw ah 0 0 W H
      have Hmt := hide hmt
      have HA7 : Hid (W * H ≤ 700) := hide (by omega)
      clear hmt
      go_wp2_with fail
      refine (HFi.out _ ix iy iw ih p HW0.out (bt HB0.out HP0.out) Hmt.out).mono ?_
      rintro e v1 ⟨o1, va1, vn1, vc1, c1, P, rfl, hb1, ⟨hcn1, -⟩, hs1⟩
      obtain ⟨Y1, hY1⟩ : ∃ Y, v1.alloc (.cells #[.int .i64 o1, .slice va1 vn1 vc1] 41) = Y := ⟨_, rfl⟩
      have BY1 : Below v1.heap.size v1 Y1 := hY1 ▸ box1 _ _
      have R1 : Y1.heap[v1.heap.size]? = some (.cells #[.int .i64 o1, .slice va1 vn1 vc1] 41) := hY1 ▸ heap_alloc_new v1 _
      have HY1 := hide hY1
      have HP1 := hide (bt HP0.out (bt hb1 BY1))
      have HR1 := hide (HR0.out.kept (bt hb1 BY1))
      have Hs1 := hide hs1
      have HCn := hide (hcn1.turned (Turns.of_below (S := NoB) BY1) (fun _ _ => id))
      have HXr : Hid (∀ wx, Below Y1.heap.size Y1 wx → wx.heap[v1.heap.size]? = some (.cells #[.int .i64 o1, .slice va1 vn1 vc1] 41)) := hide fun wx q => (q.block _ (Array.getElem?_eq_some_iff.1 R1).1).trans R1
      obtain ⟨xb, hxb⟩ : ∃ xb, v1.heap.size = xb := ⟨_, rfl⟩
      rw [hxb] at HXr
      have HK : Hid (∀ wx, Below Y1.heap.size Y1 wx → (fun wx : World => (wx.cell? ⟨w.heap.size + 1, 0, none⟩ = some (.int .i64 c) ∧ wx.cell? ⟨w.heap.size + 1, 1, none⟩ = some (.int .i64 s)) ∧ (wx.cell? ⟨w.heap.size + 1, 2, none⟩ = some (.int .i64 fx) ∧ wx.cell? ⟨w.heap.size + 1, 3, none⟩ = some (.int .i64 fy)) ∧ (wx.cell? ⟨w.heap.size + 1, 4, none⟩ = some (.int .i64 tx) ∧ wx.cell? ⟨w.heap.size + 1, 5, none⟩ = some (.int .i64 ty)) ∧ (wx.cell? ⟨w.heap.size + 1, 6, none⟩ = some (.int .i64 ax) ∧ wx.cell? ⟨w.heap.size + 1, 7, none⟩ = some (.int .i64 ay) ∧ wx.cell? ⟨w.heap.size + 1, 8, none⟩ = some (.int .i64 aw) ∧ wx.cell? ⟨w.heap.size + 1, 9, none⟩ = some (.int .i64 ah))) wx) := hide fun wx q => by
        obtain ⟨-, e1, e2, e3, e4, -⟩ := HC.out wx (bt HP1.out q)
        exact ⟨e1, e2, e3, e4⟩
      have HO1 : Hid (∀ wx, Below Y1.heap.size Y1 wx → Calls Tryz.prog 10 #[ptr r, shv c s] wx fun e w' => ∃ a n cap, e = .returned (.agg #[.int .i64 W, .int .i64 H, .slice a n cap]) ∧ Grd w' W H tl (whoF L) c s (.slice a n cap) ∧ Below wx.heap.size wx w') := hide fun wx q => HOf.out wx r (HR1.out.kept q)
      obtain ⟨Rel, hRel⟩ : ∃ Rel : Value → Value → World → Prop, Rel = (fun v u wx => ∃ (k : Nat) (o2 : Int) (va2 : Option Addr) (vn2 vc2 : Nat) (c2 : Int) (Q : List (Int × Int)), v = ptr k ∧ u = .int .i64 c2 ∧ (Below Y1.heap.size Y1 wx ∧ Y1.heap.size ≤ k) ∧ wx.heap[k]? = some (.cells #[.int .i64 o2, .slice va2 vn2 vc2] 41) ∧ Cn wx (.slice va2 vn2 vc2) Q ∧ Finds W H tl (whoF L) c s ix iy iw ih fx fy tx ty 16384 o2 c2 Q) := ⟨_, rfl⟩
      clear m0 m1 m2 m3 a0 a1 a2 a3 a4 a5 a6 a7 a8 a9 a10 hb1 hs1 hY1 BY1 R1 hcn1
      obtain ⟨⟨m0, m1, m2, m3⟩, ⟨a0, a1⟩, ⟨a2, a3⟩, ⟨a4, a5⟩, ⟨a6, a7, a8, a9⟩, a10⟩ := HC.out Y1 HP1.out
      go_wp2_with (first | rw [HY1.out] | fail)
      try rw [hxb]
      clear m0 m1 m2 m3 a0 a1 a2 a3 a4 a5 a6 a7 a8 a9 a10
      go_cut [10, 11] (fun v u wx => Rel v u wx)
      case first =>
        rename_i J K' hJ hK'
        have HS : (fun wx : World => (wx.cell? ⟨w.heap.size + 1, 0, none⟩ = some (.int .i64 c) ∧ wx.cell? ⟨w.heap.size + 1, 1, none⟩ = some (.int .i64 s)) ∧ (wx.cell? ⟨w.heap.size + 1, 2, none⟩ = some (.int .i64 fx) ∧ wx.cell? ⟨w.heap.size + 1, 3, none⟩ = some (.int .i64 fy)) ∧ (wx.cell? ⟨w.heap.size + 1, 4, none⟩ = some (.int .i64 tx) ∧ wx.cell? ⟨w.heap.size + 1, 5, none⟩ = some (.int .i64 ty)) ∧ (wx.cell? ⟨w.heap.size + 1, 6, none⟩ = some (.int .i64 ax) ∧ wx.cell? ⟨w.heap.size + 1, 7, none⟩ = some (.int .i64 ay) ∧ wx.cell? ⟨w.heap.size + 1, 8, none⟩ = some (.int .i64 aw) ∧ wx.cell? ⟨w.heap.size + 1, 9, none⟩ = some (.int .i64 ah))) Y1.drew := HK.out _ (Below.refl _ _).drew
        refine wp_only ?_
        refine wp_region_z (fun wx : World => (wx.cell? ⟨w.heap.size + 1, 0, none⟩ = some (.int .i64 c) ∧ wx.cell? ⟨w.heap.size + 1, 1, none⟩ = some (.int .i64 s)) ∧ (wx.cell? ⟨w.heap.size + 1, 2, none⟩ = some (.int .i64 fx) ∧ wx.cell? ⟨w.heap.size + 1, 3, none⟩ = some (.int .i64 fy)) ∧ (wx.cell? ⟨w.heap.size + 1, 4, none⟩ = some (.int .i64 tx) ∧ wx.cell? ⟨w.heap.size + 1, 5, none⟩ = some (.int .i64 ty)) ∧ (wx.cell? ⟨w.heap.size + 1, 6, none⟩ = some (.int .i64 ax) ∧ wx.cell? ⟨w.heap.size + 1, 7, none⟩ = some (.int .i64 ay) ∧ wx.cell? ⟨w.heap.size + 1, 8, none⟩ = some (.int .i64 aw) ∧ wx.cell? ⟨w.heap.size + 1, 9, none⟩ = some (.int .i64 ah))) [] (by kernel_rfl) ?_
        refine anyZ_take 0 16 (v := ptr r) rfl (by kernel_rfl) (fun _ _ _ h => h.elim) (Or.inl ⟨by rfl, fun wx hx => by obtain ⟨⟨q0, q1⟩, ⟨q2, q3⟩, ⟨q4, q5⟩, q6, q7, q8, q9⟩ := hx; clear HS; go_simp⟩) HS ?_
        try simp only [Act.put, List.getElem_toArray, List.getElem_cons_zero, List.getElem_cons_succ, List.setIfInBounds_toArray, List.set_cons_zero, List.set_cons_succ]
        refine anyZ_take 1 16 (v := .pointer (some ⟨w.heap.size + 1, 0, none⟩)) rfl (by kernel_rfl) (fun _ _ _ h => h.elim) (Or.inl ⟨by rfl, fun wx hx => by obtain ⟨⟨q0, q1⟩, ⟨q2, q3⟩, ⟨q4, q5⟩, q6, q7, q8, q9⟩ := hx; clear HS; go_simp⟩) HS ?_
        try simp only [Act.put, List.getElem_toArray, List.getElem_cons_zero, List.getElem_cons_succ, List.setIfInBounds_toArray, List.set_cons_zero, List.set_cons_succ]
        refine anyZ_take 2 16 (v := shv c s) rfl (by kernel_rfl) (fun _ _ _ h => h.elim) (Or.inl ⟨by rfl, fun wx hx => by obtain ⟨⟨q0, q1⟩, ⟨q2, q3⟩, ⟨q4, q5⟩, q6, q7, q8, q9⟩ := hx; clear HS; go_simp⟩) HS ?_
        try simp only [Act.put, List.getElem_toArray, List.getElem_cons_zero, List.getElem_cons_succ, List.setIfInBounds_toArray, List.set_cons_zero, List.set_cons_succ]
        refine anyZ_take 4 16 (v := .pointer (some ⟨w.heap.size + 1, 2, none⟩)) rfl (by kernel_rfl) (fun _ _ _ h => h.elim) (Or.inl ⟨by rfl, fun wx hx => by obtain ⟨⟨q0, q1⟩, ⟨q2, q3⟩, ⟨q4, q5⟩, q6, q7, q8, q9⟩ := hx; clear HS; go_simp⟩) HS ?_
        try simp only [Act.put, List.getElem_toArray, List.getElem_cons_zero, List.getElem_cons_succ, List.setIfInBounds_toArray, List.set_cons_zero, List.set_cons_succ]
        refine anyZ_take 5 16 (v := cel fx fy) rfl (by kernel_rfl) (fun _ _ _ h => h.elim) (Or.inl ⟨by rfl, fun wx hx => by obtain ⟨⟨q0, q1⟩, ⟨q2, q3⟩, ⟨q4, q5⟩, q6, q7, q8, q9⟩ := hx; clear HS; go_simp⟩) HS ?_
        try simp only [Act.put, List.getElem_toArray, List.getElem_cons_zero, List.getElem_cons_succ, List.setIfInBounds_toArray, List.set_cons_zero, List.set_cons_succ]
        refine anyZ_take 6 16 (v := .pointer (some ⟨w.heap.size + 1, 4, none⟩)) rfl (by kernel_rfl) (fun _ _ _ h => h.elim) (Or.inl ⟨by rfl, fun wx hx => by obtain ⟨⟨q0, q1⟩, ⟨q2, q3⟩, ⟨q4, q5⟩, q6, q7, q8, q9⟩ := hx; clear HS; go_simp⟩) HS ?_
        try simp only [Act.put, List.getElem_toArray, List.getElem_cons_zero, List.getElem_cons_succ, List.setIfInBounds_toArray, List.set_cons_zero, List.set_cons_succ]
        refine anyZ_take 7 16 (v := cel tx ty) rfl (by kernel_rfl) (fun _ _ _ h => h.elim) (Or.inl ⟨by rfl, fun wx hx => by obtain ⟨⟨q0, q1⟩, ⟨q2, q3⟩, ⟨q4, q5⟩, q6, q7, q8, q9⟩ := hx; clear HS; go_simp⟩) HS ?_
        try simp only [Act.put, List.getElem_toArray, List.getElem_cons_zero, List.getElem_cons_succ, List.setIfInBounds_toArray, List.set_cons_zero, List.set_cons_succ]
        refine anyZ_take 8 16 (v := .pointer (some ⟨w.heap.size + 1, 6, none⟩)) rfl (by kernel_rfl) (fun _ _ _ h => h.elim) (Or.inl ⟨by rfl, fun wx hx => by obtain ⟨⟨q0, q1⟩, ⟨q2, q3⟩, ⟨q4, q5⟩, q6, q7, q8, q9⟩ := hx; clear HS; go_simp⟩) HS ?_
        try simp only [Act.put, List.getElem_toArray, List.getElem_cons_zero, List.getElem_cons_succ, List.setIfInBounds_toArray, List.set_cons_zero, List.set_cons_succ]
        refine anyZ_take 9 16 (v := rct ax ay aw ah) rfl (by kernel_rfl) (fun _ _ _ h => h.elim) (Or.inl ⟨by rfl, fun wx hx => by obtain ⟨⟨q0, q1⟩, ⟨q2, q3⟩, ⟨q4, q5⟩, q6, q7, q8, q9⟩ := hx; clear HS; go_simp⟩) HS ?_
        try simp only [Act.put, List.getElem_toArray, List.getElem_cons_zero, List.getElem_cons_succ, List.setIfInBounds_toArray, List.set_cons_zero, List.set_cons_succ]
        have W0b : Below Y1.heap.size Y1 Y1.drew := (Below.refl _ _).drew
        obtain ⟨W0, hW0⟩ : ∃ W0, Y1.drew = W0 := ⟨_, rfl⟩
        rw [hW0] at W0b ⊢
        clear hW0 HS
        refine anyZ_ready (rs := [3, 14]) (by kernel_rfl) (by simp) ?_
        refine readyZ.call rfl rfl (run_callR10 (by rfl) (by rfl) (by simp only [List.map_toArray, List.map_cons, List.map_nil]; rfl)) (HO1.out _ W0b) ?_ ?_
        · rintro e W1 ⟨ga, gn, gc, rfl, hgr, b3⟩
          have W1b : Below Y1.heap.size Y1 W1 := bt W0b b3
          refine ⟨_, rfl, fun _ => HK.out _ W1b, ?_⟩
          try simp only [Act.put, List.getElem_toArray, List.getElem_cons_zero, List.getElem_cons_succ, List.setIfInBounds_toArray, List.set_cons_zero, List.set_cons_succ]
          refine anyZ_ready (rs := [10, 14]) (by kernel_rfl) (by simp) ?_
          refine readyZ.call rfl rfl (run_callR11 (by rfl) (by rfl) (by simp only [List.map_toArray, List.map_cons, List.map_nil]; rfl)) (HDf.out _ ga gn gc ix iy iw ih HA7.out hgr Hmt.out) ?_ ?_
          · rintro e W2 ⟨o2, va2, vn2, vc2, c2, Q, rfl, b10, hcn2, hs2⟩
            have W2b : Below Y1.heap.size Y1 W2 := bt W1b b10
            refine ⟨_, rfl, fun _ => HK.out _ W2b, ?_⟩
            try simp only [Act.put, List.getElem_toArray, List.getElem_cons_zero, List.getElem_cons_succ, List.setIfInBounds_toArray, List.set_cons_zero, List.set_cons_succ]
            refine anyZ_take 11 16 (v := .tuple #[.agg #[.int .i64 o2, .slice va2 vn2 vc2], .int .i64 c2]) rfl (by kernel_rfl) (fun _ _ _ h => h.elim) (Or.inl ⟨by rfl, fun wx hx => by go_simp⟩) (HK.out _ W2b) ?_
            try simp only [Act.put, List.getElem_toArray, List.getElem_cons_zero, List.getElem_cons_succ, List.setIfInBounds_toArray, List.set_cons_zero, List.set_cons_succ]
            refine anyZ_take 12 16 (v := .agg #[.int .i64 o2, .slice va2 vn2 vc2]) rfl (by kernel_rfl) (fun _ _ _ h => h.elim) (Or.inl ⟨by rfl, fun wx hx => by go_simp⟩) (HK.out _ W2b) ?_
            try simp only [Act.put, List.getElem_toArray, List.getElem_cons_zero, List.getElem_cons_succ, List.setIfInBounds_toArray, List.set_cons_zero, List.set_cons_succ]
            refine anyZ_take 13 16 (v := .int .i64 c2) rfl (by kernel_rfl) (fun _ _ _ h => h.elim) (Or.inl ⟨by rfl, fun wx hx => by go_simp⟩) (HK.out _ W2b) ?_
            try simp only [Act.put, List.getElem_toArray, List.getElem_cons_zero, List.getElem_cons_succ, List.setIfInBounds_toArray, List.set_cons_zero, List.set_cons_succ]
            refine anyZ_ready (rs := [14]) (by kernel_rfl) (by simp) ?_
            obtain ⟨W3, h14⟩ : ∃ W, W2.alloc (.cells #[.int .i64 0, .slice none 0 0] 41) = W := ⟨_, rfl⟩
            have b14 : Below W2.heap.size W2 W3 := h14 ▸ box1 _ _
            have W3b : Below Y1.heap.size Y1 W3 := bt W2b b14
            have f14 : W3.heap[W2.heap.size]? = some (.cells #[.int .i64 0, .slice none 0 0] 41) := h14 ▸ heap_alloc_new W2 _
            have z14 := W2b.size
            refine readyZ.cons rfl rfl (h14 ▸ run_alloc41 (by rfl)) (fun _ => HK.out _ W3b) ?_ readyZ.nil
            try simp only [Act.put, List.getElem_toArray, List.getElem_cons_zero, List.getElem_cons_succ, List.setIfInBounds_toArray, List.set_cons_zero, List.set_cons_succ]
            clear h14
            generalize W2.heap.size = kk at f14 z14 ⊢
            refine anyZ_ready (rs := [15]) (by kernel_rfl) (by simp) ?_
            have hcn3 := hcn2.turned (Turns.of_below (S := NoB) b14) (fun _ _ => id)
            obtain ⟨WY, hWY⟩ : ∃ W, (W3.setCell ⟨kk, 0, none⟩ (.int .i64 o2)).setCell ⟨kk, 1, none⟩ (.slice va2 vn2 vc2) = W := ⟨_, rfl⟩
            have fY : WY.heap[kk]? = some (.cells #[.int .i64 o2, .slice va2 vn2 vc2] 41) := hWY ▸ res_row f14 o2 _
            have TY : Turns (fun j => j = kk) W3 WY := hWY ▸ turns_two _ _ _ _
            have bY : Below Y1.heap.size Y1 WY := W3b.trans (TY.below (fun j e => by omega) W3b.size)
            have cY := hcn3.turned TY (hcn3.past41 f14)
            refine readyZ.skip rfl rfl (hWY ▸ run_put41 (by rfl) (by rfl) (by rfl) f14) (fun _ => HK.out _ bY) ?_ readyZ.nil
            try simp only [Act.put, List.getElem_toArray, List.getElem_cons_zero, List.getElem_cons_succ, List.setIfInBounds_toArray, List.set_cons_zero, List.set_cons_succ]
            refine anyZ_take 16 16 (v := .int .i64 c2) rfl (by kernel_rfl) (fun _ _ _ h => h.elim) (Or.inl ⟨by rfl, fun wx hx => by go_simp⟩) (HK.out _ bY) ?_
            try simp only [Act.put, List.getElem_toArray, List.getElem_cons_zero, List.getElem_cons_succ, List.setIfInBounds_toArray, List.set_cons_zero, List.set_cons_succ]
            refine anyZ_done (by kernel_rfl) ?_ _
            dsimp only [Only, Exit.then]
            have HE : Hid (Rel (ptr kk) (.int .i64 c2) WY) := hide (hRel ▸ ⟨kk, o2, va2, vn2, vc2, c2, Q, rfl, rfl, ⟨bY, z14⟩, fY, cY, hs2⟩)
            clear bY fY f14 z14 TY cY hWY hcn3 hs2
            refine hK' _ _ (Met.intro (hJ _ _ ?_))
            (repeat apply Exists.intro)
            exact ⟨HE.out, rfl⟩
          obtain ⟨W2, h14⟩ : ∃ W, W1.alloc (.cells #[.int .i64 0, .slice none 0 0] 41) = W := ⟨_, rfl⟩
          have b14 : Below W1.heap.size W1 W2 := h14 ▸ box1 _ _
          have W2b : Below Y1.heap.size Y1 W2 := bt W1b b14
          have f14 : W2.heap[W1.heap.size]? = some (.cells #[.int .i64 0, .slice none 0 0] 41) := h14 ▸ heap_alloc_new W1 _
          have z14 := W1b.size
          refine readyZ.cons rfl rfl (h14 ▸ run_alloc41 (by rfl)) (fun _ => HK.out _ W2b) ?_ readyZ.nil
          try simp only [Act.put, List.getElem_toArray, List.getElem_cons_zero, List.getElem_cons_succ, List.setIfInBounds_toArray, List.set_cons_zero, List.set_cons_succ]
          clear h14
          generalize W1.heap.size = kk at f14 z14 ⊢
          refine anyZ_ready (rs := [10]) (by kernel_rfl) (by simp) ?_
          refine readyZ.call rfl rfl (run_callR11 (by rfl) (by rfl) (by simp only [List.map_toArray, List.map_cons, List.map_nil]; rfl)) (HDf.out _ ga gn gc ix iy iw ih HA7.out (hgr.upto b14) Hmt.out) ?_ readyZ.nil
          rintro e W3 ⟨o2, va2, vn2, vc2, c2, Q, rfl, b10, hcn2, hs2⟩
          have W3b : Below Y1.heap.size Y1 W3 := bt W2b b10
          refine ⟨_, rfl, fun _ => HK.out _ W3b, ?_⟩
          try simp only [Act.put, List.getElem_toArray, List.getElem_cons_zero, List.getElem_cons_succ, List.setIfInBounds_toArray, List.set_cons_zero, List.set_cons_succ]
          have f14 := (b10.block _ (Array.getElem?_eq_some_iff.1 f14).1).trans f14
          refine anyZ_take 11 16 (v := .tuple #[.agg #[.int .i64 o2, .slice va2 vn2 vc2], .int .i64 c2]) rfl (by kernel_rfl) (fun _ _ _ h => h.elim) (Or.inl ⟨by rfl, fun wx hx => by go_simp⟩) (HK.out _ W3b) ?_
          try simp only [Act.put, List.getElem_toArray, List.getElem_cons_zero, List.getElem_cons_succ, List.setIfInBounds_toArray, List.set_cons_zero, List.set_cons_succ]
          refine anyZ_take 12 16 (v := .agg #[.int .i64 o2, .slice va2 vn2 vc2]) rfl (by kernel_rfl) (fun _ _ _ h => h.elim) (Or.inl ⟨by rfl, fun wx hx => by go_simp⟩) (HK.out _ W3b) ?_
          try simp only [Act.put, List.getElem_toArray, List.getElem_cons_zero, List.getElem_cons_succ, List.setIfInBounds_toArray, List.set_cons_zero, List.set_cons_succ]
          refine anyZ_take 13 16 (v := .int .i64 c2) rfl (by kernel_rfl) (fun _ _ _ h => h.elim) (Or.inl ⟨by rfl, fun wx hx => by go_simp⟩) (HK.out _ W3b) ?_
          try simp only [Act.put, List.getElem_toArray, List.getElem_cons_zero, List.getElem_cons_succ, List.setIfInBounds_toArray, List.set_cons_zero, List.set_cons_succ]
          refine anyZ_ready (rs := [15]) (by kernel_rfl) (by simp) ?_
          have hcn3 := hcn2
          obtain ⟨WY, hWY⟩ : ∃ W, (W3.setCell ⟨kk, 0, none⟩ (.int .i64 o2)).setCell ⟨kk, 1, none⟩ (.slice va2 vn2 vc2) = W := ⟨_, rfl⟩
          have fY : WY.heap[kk]? = some (.cells #[.int .i64 o2, .slice va2 vn2 vc2] 41) := hWY ▸ res_row f14 o2 _
          have TY : Turns (fun j => j = kk) W3 WY := hWY ▸ turns_two _ _ _ _
          have bY : Below Y1.heap.size Y1 WY := W3b.trans (TY.below (fun j e => by omega) W3b.size)
          have cY := hcn3.turned TY (hcn3.past41 f14)
          refine readyZ.skip rfl rfl (hWY ▸ run_put41 (by rfl) (by rfl) (by rfl) f14) (fun _ => HK.out _ bY) ?_ readyZ.nil
          try simp only [Act.put, List.getElem_toArray, List.getElem_cons_zero, List.getElem_cons_succ, List.setIfInBounds_toArray, List.set_cons_zero, List.set_cons_succ]
          refine anyZ_take 16 16 (v := .int .i64 c2) rfl (by kernel_rfl) (fun _ _ _ h => h.elim) (Or.inl ⟨by rfl, fun wx hx => by go_simp⟩) (HK.out _ bY) ?_
          try simp only [Act.put, List.getElem_toArray, List.getElem_cons_zero, List.getElem_cons_succ, List.setIfInBounds_toArray, List.set_cons_zero, List.set_cons_succ]
          refine anyZ_done (by kernel_rfl) ?_ _
          dsimp only [Only, Exit.then]
          have HE : Hid (Rel (ptr kk) (.int .i64 c2) WY) := hide (hRel ▸ ⟨kk, o2, va2, vn2, vc2, c2, Q, rfl, rfl, ⟨bY, z14⟩, fY, cY, hs2⟩)
          clear bY fY f14 z14 TY cY hWY hcn3 hs2
          refine hK' _ _ (Met.intro (hJ _ _ ?_))
          (repeat apply Exists.intro)
          exact ⟨HE.out, rfl⟩
        obtain ⟨W1, h14⟩ : ∃ W, W0.alloc (.cells #[.int .i64 0, .slice none 0 0] 41) = W := ⟨_, rfl⟩
        have b14 : Below W0.heap.size W0 W1 := h14 ▸ box1 _ _
        have W1b : Below Y1.heap.size Y1 W1 := bt W0b b14
        have f14 : W1.heap[W0.heap.size]? = some (.cells #[.int .i64 0, .slice none 0 0] 41) := h14 ▸ heap_alloc_new W0 _
        have z14 := W0b.size
        refine readyZ.cons rfl rfl (h14 ▸ run_alloc41 (by rfl)) (fun _ => HK.out _ W1b) ?_ readyZ.nil
        try simp only [Act.put, List.getElem_toArray, List.getElem_cons_zero, List.getElem_cons_succ, List.setIfInBounds_toArray, List.set_cons_zero, List.set_cons_succ]
        clear h14
        generalize W0.heap.size = kk at f14 z14 ⊢
        refine anyZ_ready (rs := [3]) (by kernel_rfl) (by simp) ?_
        refine readyZ.call rfl rfl (run_callR10 (by rfl) (by rfl) (by simp only [List.map_toArray, List.map_cons, List.map_nil]; rfl)) (HO1.out _ W1b) ?_ readyZ.nil
        rintro e W2 ⟨ga, gn, gc, rfl, hgr, b3⟩
        have W2b : Below Y1.heap.size Y1 W2 := bt W1b b3
        refine ⟨_, rfl, fun _ => HK.out _ W2b, ?_⟩
        try simp only [Act.put, List.getElem_toArray, List.getElem_cons_zero, List.getElem_cons_succ, List.setIfInBounds_toArray, List.set_cons_zero, List.set_cons_succ]
        have f14 := (b3.block _ (Array.getElem?_eq_some_iff.1 f14).1).trans f14
        refine anyZ_ready (rs := [10]) (by kernel_rfl) (by simp) ?_
        refine readyZ.call rfl rfl (run_callR11 (by rfl) (by rfl) (by simp only [List.map_toArray, List.map_cons, List.map_nil]; rfl)) (HDf.out _ ga gn gc ix iy iw ih HA7.out hgr Hmt.out) ?_ readyZ.nil
        rintro e W3 ⟨o2, va2, vn2, vc2, c2, Q, rfl, b10, hcn2, hs2⟩
        have W3b : Below Y1.heap.size Y1 W3 := bt W2b b10
        refine ⟨_, rfl, fun _ => HK.out _ W3b, ?_⟩
        try simp only [Act.put, List.getElem_toArray, List.getElem_cons_zero, List.getElem_cons_succ, List.setIfInBounds_toArray, List.set_cons_zero, List.set_cons_succ]
        have f14 := (b10.block _ (Array.getElem?_eq_some_iff.1 f14).1).trans f14
        refine anyZ_take 11 16 (v := .tuple #[.agg #[.int .i64 o2, .slice va2 vn2 vc2], .int .i64 c2]) rfl (by kernel_rfl) (fun _ _ _ h => h.elim) (Or.inl ⟨by rfl, fun wx hx => by go_simp⟩) (HK.out _ W3b) ?_
        try simp only [Act.put, List.getElem_toArray, List.getElem_cons_zero, List.getElem_cons_succ, List.setIfInBounds_toArray, List.set_cons_zero, List.set_cons_succ]
        refine anyZ_take 12 16 (v := .agg #[.int .i64 o2, .slice va2 vn2 vc2]) rfl (by kernel_rfl) (fun _ _ _ h => h.elim) (Or.inl ⟨by rfl, fun wx hx => by go_simp⟩) (HK.out _ W3b) ?_
        try simp only [Act.put, List.getElem_toArray, List.getElem_cons_zero, List.getElem_cons_succ, List.setIfInBounds_toArray, List.set_cons_zero, List.set_cons_succ]
        refine anyZ_take 13 16 (v := .int .i64 c2) rfl (by kernel_rfl) (fun _ _ _ h => h.elim) (Or.inl ⟨by rfl, fun wx hx => by go_simp⟩) (HK.out _ W3b) ?_
        try simp only [Act.put, List.getElem_toArray, List.getElem_cons_zero, List.getElem_cons_succ, List.setIfInBounds_toArray, List.set_cons_zero, List.set_cons_succ]
        refine anyZ_ready (rs := [15]) (by kernel_rfl) (by simp) ?_
        have hcn3 := hcn2
        obtain ⟨WY, hWY⟩ : ∃ W, (W3.setCell ⟨kk, 0, none⟩ (.int .i64 o2)).setCell ⟨kk, 1, none⟩ (.slice va2 vn2 vc2) = W := ⟨_, rfl⟩
        have fY : WY.heap[kk]? = some (.cells #[.int .i64 o2, .slice va2 vn2 vc2] 41) := hWY ▸ res_row f14 o2 _
        have TY : Turns (fun j => j = kk) W3 WY := hWY ▸ turns_two _ _ _ _
        have bY : Below Y1.heap.size Y1 WY := W3b.trans (TY.below (fun j e => by omega) W3b.size)
        have cY := hcn3.turned TY (hcn3.past41 f14)
        refine readyZ.skip rfl rfl (hWY ▸ run_put41 (by rfl) (by rfl) (by rfl) f14) (fun _ => HK.out _ bY) ?_ readyZ.nil
        try simp only [Act.put, List.getElem_toArray, List.getElem_cons_zero, List.getElem_cons_succ, List.setIfInBounds_toArray, List.set_cons_zero, List.set_cons_succ]
        refine anyZ_take 16 16 (v := .int .i64 c2) rfl (by kernel_rfl) (fun _ _ _ h => h.elim) (Or.inl ⟨by rfl, fun wx hx => by go_simp⟩) (HK.out _ bY) ?_
        try simp only [Act.put, List.getElem_toArray, List.getElem_cons_zero, List.getElem_cons_succ, List.setIfInBounds_toArray, List.set_cons_zero, List.set_cons_succ]
        refine anyZ_done (by kernel_rfl) ?_ _
        dsimp only [Only, Exit.then]
        have HE : Hid (Rel (ptr kk) (.int .i64 c2) WY) := hide (hRel ▸ ⟨kk, o2, va2, vn2, vc2, c2, Q, rfl, rfl, ⟨bY, z14⟩, fY, cY, hs2⟩)
        clear bY fY f14 z14 TY cY hWY hcn3 hs2
        refine hK' _ _ (Met.intro (hJ _ _ ?_))
        (repeat apply Exists.intro)
        exact ⟨HE.out, rfl⟩
      case rest =>
        rw [hRel] at hcut
        obtain ⟨k, o2, va2, vn2, vc2, c2, Q, rfl, rfl, ⟨hB, hk⟩, hrow, hcn, hs2⟩ := hcut
        clear hRel HK HO1 HFi HOf HDf
        have HBc := hide hB
        have Hrow := hide hrow
        have Hs2 := hide hs2
        have Hcn := hide hcn
        have Hk := hide hk
        obtain ⟨⟨m0, m1, m2, m3⟩, ⟨a0, a1⟩, ⟨a2, a3⟩, ⟨a4, a5⟩, ⟨a6, a7, a8, a9⟩, a10⟩ := HC.out wc (bt HP1.out hB)
        clear hB hrow hs2 hcn hk
        go_wp2_with fail
        refine (refshmay_any c s wc).mono ?_
        rintro e w5 ⟨rfl, hb5⟩
        have HB5 := hide (bt HBc.out hb5)
        have Hrow5 := hide ((hb5.block _ (Array.getElem?_eq_some_iff.1 Hrow.out).1).trans Hrow.out)
        have Hcn5 := hide (Hcn.out.turned (Turns.of_below (S := NoB) hb5) (fun _ _ => id))
        clear hb5 HBc Hrow Hcn
        clear m0 m1 m2 m3 a0 a1 a2 a3 a4 a5 a6 a7 a8 a9 a10
        cases hsh : shB c s
        · have hno : o2 = 2 ∧ c2 = 0 ∧ Q = [] := by
            rcases Hs2.out with ⟨-, -, h1, -⟩ | ⟨h1, h2, h3, -⟩ | ⟨-, -, -, h1, h2⟩
            · have := st_may h1.2
              rw [hsh] at this
              cases this
            · exact ⟨h1, h2, h3⟩
            · omega
          obtain ⟨rfl, rfl, rfl⟩ := hno
          obtain ⟨⟨y0, y1⟩, y2, y3⟩ := res_cells Hrow5.out
          obtain ⟨Z, hZ⟩ : ∃ Z, (w5.setCell ⟨k, 0, none⟩ (.int .i64 2)).setCell ⟨k, 1, none⟩ (.slice none 0 0) = Z := ⟨_, rfl⟩
          have rZ : Z.heap[k]? = some (.cells #[.int .i64 2, .slice none 0 0] 41) := hZ ▸ res_row Hrow5.out 2 _
          have TZ : Turns (fun j => j = k) w5 Z := hZ ▸ turns_two _ _ _ _
          have HBZ := hide (HB5.out.trans (TZ.below (fun j e => by have := Hk.out; omega) HB5.out.size))
          have HrZ := hide rZ
          have HZ := hide hZ
          have HcZ : Hid (CeR Z (.slice none 0 0) []) := hide (Cn.nil Z).ceR0
          clear rZ TZ hZ HB5 Hcn5 hsh
          go_wp2_with (first | rw [HZ.out] | fail)
          clear y0 y1 y2 y3
          rcases (Hs1.out.same Hs2.out) with ⟨rfl, rfl, rfl, hlt⟩ | ⟨rfl, rfl, rfl, ho⟩
          · obtain ⟨-, a9', cap9, hve, -, -⟩ := HCn.out.ceR (by simp)
            injection hve with e1 e2 e3
            subst e1; subst e2; subst e3
            have hl0 : ((([] : List (Int × Int)).length : Nat) : Int) = 0 := rfl
            have lats := fun n : Lat Z => HC.out n.w (bt HP1.out (bt HBZ.out n.h))
            have k6 : ∀ n : Lat Z, n.w.cell? ⟨w.heap.size + 1, 6, none⟩ = some (.int .i64 ax) := fun n => (lats n).2.2.2.2.1.1
            have k7 : ∀ n : Lat Z, n.w.cell? ⟨w.heap.size + 1, 7, none⟩ = some (.int .i64 ay) := fun n => (lats n).2.2.2.2.1.2.1
            have k8 : ∀ n : Lat Z, n.w.cell? ⟨w.heap.size + 1, 8, none⟩ = some (.int .i64 aw) := fun n => (lats n).2.2.2.2.1.2.2.1
            have k9 : ∀ n : Lat Z, n.w.cell? ⟨w.heap.size + 1, 9, none⟩ = some (.int .i64 ah) := fun n => (lats n).2.2.2.2.1.2.2.2
            have k10 : ∀ n : Lat Z, n.w.cell? ⟨w.heap.size + 1, 10, none⟩ = some (.int .i64 bu) := fun n => (lats n).2.2.2.2.2
            have kx : ∀ n : Lat Z, n.w.cell? ⟨xb, 0, none⟩ = some (.int .i64 3) := fun n => (res_cells (HXr.out _ (bt HBZ.out n.h))).1.1
            have HCc : Hid (∀ n : Lat Z, Calls Tryz.prog 13 #[ptr r, rct ax ay aw ah] n.w fun e w' => e = .returned (.int .i64 (iw * ih)) ∧ Below n.w.heap.size n.w w') := hide fun n => HCe.out n.w r ix iy iw ih (HR1.out.kept (bt HBZ.out n.h)) Hmt.out
            have hne := lat_some Z
            obtain ⟨ar, har⟩ : ∃ ar, iw * ih = ar := ⟨_, rfl⟩
            rw [har] at HCc hlt
            clear lats har
            go_wp2_with fail
            refine wp_region_lat (by kernel_rfl) (by kernel_rfl) ?_
            repeat (go_big_quiet_step (first | (go_at_call 13; exact calls_lat (HCc.out _))))
            refine wpQuiet_nil ?_
            rintro _ ⟨m, rfl⟩
            have Hm2 := hide (bt HBZ.out m.h)
            obtain ⟨⟨x0, x1⟩, -, -⟩ := res_cells (HXr.out _ Hm2.out)
            clear k6 k7 k8 k9 k10 kx hne HCc
            go_wp2_with fail
            refine (HAw.out _ (bt HB0.out (bt HP1.out Hm2.out))).mono ?_
            rintro e w9 ⟨rfl, hb9⟩
            have HE := hide (bt (bt HB0.out (bt HP1.out Hm2.out)) hb9)
            clear hb9
            go_wp2_with fail
            go_ret
            exact ⟨rfl, HE.out⟩
          · have hlP : ([] : List (Int × Int)).length ≤ 1000000000 := by
              rcases Hs1.out with ⟨-, h1, h2, h3, h4⟩ | ⟨-, -, h1, -⟩ | ⟨-, -, h1, -⟩
              · have := h4.len; omega
              · rw [h1]; simp
              · rw [h1]; simp
            have HS2 : Hid (∀ wx, Below Z.heap.size Z wx → Calls Tryz.prog 14 #[.agg #[.int .i64 2, .slice va1 vn1 vc1], .agg #[.int .i64 2, .slice none 0 0]] wx fun e w' => e = .returned (.bool true) ∧ Below wx.heap.size wx w') := hide fun wx q => same_yes ((HCn.out.ceR hlP).1.kept (bt HBZ.out q)) (HcZ.out.kept q)
            have kx : ∀ n : Lat Z, n.w.cell? ⟨xb, 0, none⟩ = some (.int .i64 2) := fun n => (res_cells (HXr.out _ (bt HBZ.out n.h))).1.1
            have hne := lat_some Z
            have ho3 : ¬ (2 : Int) = 3 := by omega
            have ho3d : decide ((2 : Int) = (3 : Int)) = false := decide_eq_false ho3
            clear ho hlP
            go_wp2_with fail
            refine wp_region_lat (by kernel_rfl) (by kernel_rfl) ?_
            repeat (go_big_quiet_step (fail))
            refine wpQuiet_nil ?_
            rintro _ ⟨m, rfl⟩
            have Hm2 := hide (bt HBZ.out m.h)
            obtain ⟨⟨x0, x1⟩, -, -⟩ := res_cells (HXr.out _ Hm2.out)
            obtain ⟨⟨y0, y1⟩, -, -⟩ := res_cells ((m.h.block _ (Array.getElem?_eq_some_iff.1 HrZ.out).1).trans HrZ.out)
            have HS3 := hide (HS2.out m.w m.h)
            clear kx hne HS2
            go_wp2_with fail
            refine HS3.out.mono ?_
            rintro e w8 ⟨rfl, hb8⟩
            have Hm3 := hide (bt Hm2.out hb8)
            clear x0 x1 y0 y1 hb8
            go_wp2_with fail
            refine (HAw.out _ (bt HB0.out (bt HP1.out Hm3.out))).mono ?_
            rintro e w9 ⟨rfl, hb9⟩
            have HE := hide (bt (bt HB0.out (bt HP1.out Hm3.out)) hb9)
            clear hb9
            go_wp2_with fail
            go_ret
            exact ⟨rfl, HE.out⟩
        · have hlQ : Q.length ≤ 1000000000 := by
            rcases Hs2.out with ⟨-, h1, h2, h3, h4⟩ | ⟨-, -, h1, -⟩ | ⟨-, -, h1, -⟩
            · have := h4.len; omega
            · rw [h1]; simp
            · rw [h1]; simp
          have HcZ := hide (Hcn5.out.ceR hlQ).1
          clear hlQ Hcn5 hsh
          go_wp2_with fail
          rcases (Hs1.out.same Hs2.out) with ⟨rfl, rfl, rfl, hlt⟩ | ⟨rfl, rfl, rfl, ho⟩
          · obtain ⟨-, a9', cap9, hve, -, -⟩ := HCn.out.ceR (by simp)
            injection hve with e1 e2 e3
            subst e1; subst e2; subst e3
            have hl0 : ((([] : List (Int × Int)).length : Nat) : Int) = 0 := rfl
            have lats := fun n : Lat w5 => HC.out n.w (bt HP1.out (bt HB5.out n.h))
            have k6 : ∀ n : Lat w5, n.w.cell? ⟨w.heap.size + 1, 6, none⟩ = some (.int .i64 ax) := fun n => (lats n).2.2.2.2.1.1
            have k7 : ∀ n : Lat w5, n.w.cell? ⟨w.heap.size + 1, 7, none⟩ = some (.int .i64 ay) := fun n => (lats n).2.2.2.2.1.2.1
            have k8 : ∀ n : Lat w5, n.w.cell? ⟨w.heap.size + 1, 8, none⟩ = some (.int .i64 aw) := fun n => (lats n).2.2.2.2.1.2.2.1
            have k9 : ∀ n : Lat w5, n.w.cell? ⟨w.heap.size + 1, 9, none⟩ = some (.int .i64 ah) := fun n => (lats n).2.2.2.2.1.2.2.2
            have k10 : ∀ n : Lat w5, n.w.cell? ⟨w.heap.size + 1, 10, none⟩ = some (.int .i64 bu) := fun n => (lats n).2.2.2.2.2
            have kx : ∀ n : Lat w5, n.w.cell? ⟨xb, 0, none⟩ = some (.int .i64 3) := fun n => (res_cells (HXr.out _ (bt HB5.out n.h))).1.1
            have HCc : Hid (∀ n : Lat w5, Calls Tryz.prog 13 #[ptr r, rct ax ay aw ah] n.w fun e w' => e = .returned (.int .i64 (iw * ih)) ∧ Below n.w.heap.size n.w w') := hide fun n => HCe.out n.w r ix iy iw ih (HR1.out.kept (bt HB5.out n.h)) Hmt.out
            have hne := lat_some w5
            obtain ⟨ar, har⟩ : ∃ ar, iw * ih = ar := ⟨_, rfl⟩
            rw [har] at HCc hlt
            clear lats har
            go_wp2_with fail
            refine wp_region_lat (by kernel_rfl) (by kernel_rfl) ?_
            repeat (go_big_quiet_step (first | (go_at_call 13; exact calls_lat (HCc.out _))))
            refine wpQuiet_nil ?_
            rintro _ ⟨m, rfl⟩
            have Hm2 := hide (bt HB5.out m.h)
            obtain ⟨⟨x0, x1⟩, -, -⟩ := res_cells (HXr.out _ Hm2.out)
            clear k6 k7 k8 k9 k10 kx hne HCc
            go_wp2_with fail
            refine (HAw.out _ (bt HB0.out (bt HP1.out Hm2.out))).mono ?_
            rintro e w9 ⟨rfl, hb9⟩
            have HE := hide (bt (bt HB0.out (bt HP1.out Hm2.out)) hb9)
            clear hb9
            go_wp2_with fail
            go_ret
            exact ⟨rfl, HE.out⟩
          · rcases ho with rfl | rfl
            · have hlP : P.length ≤ 1000000000 := by
                rcases Hs1.out with ⟨-, h1, h2, h3, h4⟩ | ⟨-, -, h1, -⟩ | ⟨-, -, h1, -⟩
                · have := h4.len; omega
                · rw [h1]; simp
                · rw [h1]; simp
              have HS2 : Hid (∀ wx, Below w5.heap.size w5 wx → Calls Tryz.prog 14 #[.agg #[.int .i64 1, .slice va1 vn1 vc1], .agg #[.int .i64 1, .slice va2 vn2 vc2]] wx fun e w' => e = .returned (.bool true) ∧ Below wx.heap.size wx w') := hide fun wx q => same_yes ((HCn.out.ceR hlP).1.kept (bt HB5.out q)) (HcZ.out.kept q)
              have kx : ∀ n : Lat w5, n.w.cell? ⟨xb, 0, none⟩ = some (.int .i64 1) := fun n => (res_cells (HXr.out _ (bt HB5.out n.h))).1.1
              have hne := lat_some w5
              have ho3 : ¬ (1 : Int) = 3 := by omega
              have ho3d : decide ((1 : Int) = (3 : Int)) = false := decide_eq_false ho3
              clear hlP
              go_wp2_with fail
              refine wp_region_lat (by kernel_rfl) (by kernel_rfl) ?_
              repeat (go_big_quiet_step (fail))
              refine wpQuiet_nil ?_
              rintro _ ⟨m, rfl⟩
              have Hm2 := hide (bt HB5.out m.h)
              obtain ⟨⟨x0, x1⟩, -, -⟩ := res_cells (HXr.out _ Hm2.out)
              obtain ⟨⟨y0, y1⟩, -, -⟩ := res_cells ((m.h.block _ (Array.getElem?_eq_some_iff.1 Hrow5.out).1).trans Hrow5.out)
              have HS3 := hide (HS2.out m.w m.h)
              clear kx hne HS2
              go_wp2_with fail
              refine HS3.out.mono ?_
              rintro e w8 ⟨rfl, hb8⟩
              have Hm3 := hide (bt Hm2.out hb8)
              clear x0 x1 y0 y1 hb8
              go_wp2_with fail
              refine (HAw.out _ (bt HB0.out (bt HP1.out Hm3.out))).mono ?_
              rintro e w9 ⟨rfl, hb9⟩
              have HE := hide (bt (bt HB0.out (bt HP1.out Hm3.out)) hb9)
              clear hb9
              go_wp2_with fail
              go_ret
              exact ⟨rfl, HE.out⟩
            · have hlP : P.length ≤ 1000000000 := by
                rcases Hs1.out with ⟨-, h1, h2, h3, h4⟩ | ⟨-, -, h1, -⟩ | ⟨-, -, h1, -⟩
                · have := h4.len; omega
                · rw [h1]; simp
                · rw [h1]; simp
              have HS2 : Hid (∀ wx, Below w5.heap.size w5 wx → Calls Tryz.prog 14 #[.agg #[.int .i64 2, .slice va1 vn1 vc1], .agg #[.int .i64 2, .slice va2 vn2 vc2]] wx fun e w' => e = .returned (.bool true) ∧ Below wx.heap.size wx w') := hide fun wx q => same_yes ((HCn.out.ceR hlP).1.kept (bt HB5.out q)) (HcZ.out.kept q)
              have kx : ∀ n : Lat w5, n.w.cell? ⟨xb, 0, none⟩ = some (.int .i64 2) := fun n => (res_cells (HXr.out _ (bt HB5.out n.h))).1.1
              have hne := lat_some w5
              have ho3 : ¬ (2 : Int) = 3 := by omega
              have ho3d : decide ((2 : Int) = (3 : Int)) = false := decide_eq_false ho3
              clear hlP
              go_wp2_with fail
              refine wp_region_lat (by kernel_rfl) (by kernel_rfl) ?_
              repeat (go_big_quiet_step (fail))
              refine wpQuiet_nil ?_
              rintro _ ⟨m, rfl⟩
              have Hm2 := hide (bt HB5.out m.h)
              obtain ⟨⟨x0, x1⟩, -, -⟩ := res_cells (HXr.out _ Hm2.out)
              obtain ⟨⟨y0, y1⟩, -, -⟩ := res_cells ((m.h.block _ (Array.getElem?_eq_some_iff.1 Hrow5.out).1).trans Hrow5.out)
              have HS3 := hide (HS2.out m.w m.h)
              clear kx hne HS2
              go_wp2_with fail
              refine HS3.out.mono ?_
              rintro e w8 ⟨rfl, hb8⟩
              have Hm3 := hide (bt Hm2.out hb8)
              clear x0 x1 y0 y1 hb8
              go_wp2_with fail
              refine (HAw.out _ (bt HB0.out (bt HP1.out Hm3.out))).mono ?_
              rintro e w9 ⟨rfl, hb9⟩
              have HE := hide (bt (bt HB0.out (bt HP1.out Hm3.out)) hb9)
              clear hb9
              go_wp2_with fail
              go_ret
              exact ⟨rfl, HE.out⟩
  · have HBo := hide (both_no W H _ _ tl L X (hv.kept B0) hb (hl.kept B0) hc)
    clear hX B0 M0 A0 hv hl hb hg ho hc
    go_enter Tryz.func3, Tryz.ntmps3
    go_wp2_with (first | rw [HX.out] | fail)
    refine HBo.out.mono ?_
    rintro e w1 ⟨rfl, hb1⟩
    have HB1 := hide hb1
    clear m0 m1 m2 m3 a0 a1 a2 a3 a4 a5 a6 a7 a8 a9 a10 HBo hb1
    go_wp2_with fail
    refine (HAw.out _ (bt HB0.out HB1.out)).mono ?_
    rintro e w9 ⟨rfl, hb9⟩
    have HE := hide (bt (bt HB0.out HB1.out) hb9)
    clear hb9
    go_wp2_with fail
    go_ret
    exact ⟨rfl, HE.out⟩
end Go.Proofs.YtggaobcdogbjhaaGreatDoor
