/-
  The document's Octile; what follows of a way: it is legal, costs what is told, comes back at the same cost.
-/
import Derived.Test.YtggaobcdogbjhaaGreatDoorPaAll
import Derived.Test.YtggaobcdogbjhaaGreatDoorCoAll
import Derived.Deep.RegionHeld3
namespace Go.Proofs.YtggaobcdogbjhaaGreatDoor
open Go.RowKit Go.Shelf
set_option linter.unusedVariables false
set_option linter.unusedSimpArgs false
set_option maxHeartbeats 400000 in
theorem abs_any (a : Int) (w : World) (ha : -9223372036854775807 ≤ a ∧ a ≤ 9223372036854775807) :
    Calls Tryz.prog 53 #[.int .i64 a] w fun e w' => e = .returned (.int .i64 (amt a)) ∧ w' = w := by
  obtain ⟨h0, h1⟩ := ha
  by_cases h : a < 0
  · rw [show amt a = -a by unfold amt; rw [if_pos h]]
    go_enter Tryz.func53, Tryz.ntmps53
    go_wp2
    go_ret
    exact ⟨rfl, rfl⟩
  · rw [show amt a = a by unfold amt; rw [if_neg h]]
    go_enter Tryz.func53, Tryz.ntmps53
    go_wp2
    go_ret
    exact ⟨rfl, rfl⟩
set_option maxHeartbeats 1000000 in
theorem refoctilec_no1 (a b c d : Int) (w : World) (h : nrC a b = false) :
    Calls Tryz.prog 22 #[.agg #[.int .i64 a, .int .i64 b], .agg #[.int .i64 c, .int .i64 d]] w fun e w' => e = .returned (.int .i64 (ocN a b c d)) ∧ Below w.heap.size w w' := by
  rw [ocN_no1 h]
  go_enter Tryz.func22, Tryz.ntmps22
  go_wp2_with (go_at_call 52; refine (refnear_any _ _ _).mono ?_; rintro e w1 ⟨rfl, hb1⟩)
  go_ret
  exact ⟨rfl, bt (box2 _ _ _) hb1⟩
set_option maxHeartbeats 1000000 in
theorem refoctilec_no2 (a b c d : Int) (w : World) (h : nrC a b = true) (h2 : nrC c d = false) :
    Calls Tryz.prog 22 #[.agg #[.int .i64 a, .int .i64 b], .agg #[.int .i64 c, .int .i64 d]] w fun e w' => e = .returned (.int .i64 (ocN a b c d)) ∧ Below w.heap.size w w' := by
  rw [ocN_no2 h2]
  go_enter Tryz.func22, Tryz.ntmps22
  go_wp2_with fail
  refine (refnear_any _ _ _).mono ?_
  rintro e w1 ⟨rfl, hb1⟩
  obtain ⟨⟨e0, e1⟩, _, z1⟩ := cells2'' hb1
  go_wp2_with fail
  refine (refnear_any _ _ _).mono ?_
  rintro e w2 ⟨rfl, hb2⟩
  go_wp2_with fail
  go_ret
  exact ⟨rfl, bt (bt (box2 _ _ _) hb1) hb2⟩
set_option maxHeartbeats 1000000 in
theorem refoctilec_yes (a b c d : Int) (w : World) (h : nrC a b = true) (h2 : nrC c d = true) :
    Calls Tryz.prog 22 #[.agg #[.int .i64 a, .int .i64 b], .agg #[.int .i64 c, .int .i64 d]] w fun e w' => e = .returned (.int .i64 (ocN a b c d)) ∧ Below w.heap.size w w' := by
  rw [ocN_yes h h2]
  obtain ⟨⟨a0, a1⟩, b0, b1⟩ := (nrC_iff a b).1 h
  obtain ⟨⟨cc0, cc1⟩, d0, d1⟩ := (nrC_iff c d).1 h2
  have HO := hide (oct_near h h2)
  have wx : IntKind.i64.wrap (a - c) = a - c := wrap_in (by omega) (by omega)
  have wy : IntKind.i64.wrap (b - d) = b - d := wrap_in (by omega) (by omega)
  go_enter Tryz.func22, Tryz.ntmps22
  go_wp2_with fail
  refine (refnear_any _ _ _).mono ?_
  rintro e w1 ⟨rfl, hb1⟩
  obtain ⟨⟨c0, c1⟩, ⟨f0, f1⟩, z0⟩ := cells2' hb1
  obtain ⟨⟨e0, e1⟩, ⟨g0, g1⟩, z1⟩ := cells2'' hb1
  have B1 := hide (bt (box2 _ _ _) hb1)
  clear hb1
  go_wp2_with fail
  refine (refnear_any _ _ _).mono ?_
  rintro e w2 ⟨rfl, hb2⟩
  obtain ⟨⟨k0, k1⟩, _⟩ := Below.two hb2 z0 c0 c1 f0 f1
  obtain ⟨⟨l0, l1⟩, _⟩ := Below.two hb2 z1 e0 e1 g0 g1
  have B2 := hide hb2
  clear hb2 c0 c1 e0 e1
  go_wp2_with fail
  go_region_held3 (fun w' => (w'.cell? ⟨w.heap.size, 0, none⟩ = some (.int .i64 a) ∧ w'.cell? ⟨w.heap.size, 1, none⟩ = some (.int .i64 b)) ∧ (w'.cell? ⟨w.heap.size + 1, 0, none⟩ = some (.int .i64 c) ∧ w'.cell? ⟨w.heap.size + 1, 1, none⟩ = some (.int .i64 d))) (go_keep)
    ((go_at_call 53; refine (abs_any _ _ (by omega)).mono ?_; rintro e w' ⟨rfl, rfl⟩))
  obtain ⟨m0, m1⟩ := amt_near ⟨a0, a1⟩ ⟨cc0, cc1⟩
  obtain ⟨n0, n1⟩ := amt_near ⟨b0, b1⟩ ⟨d0, d1⟩
  by_cases hlt : amt (b - d) < amt (a - c)
  · go_wp2_with fail
    go_ret
    exact ⟨ret_int (by unfold octN; omega), (bt B1.out B2.out).drew⟩
  · go_wp2_with fail
    go_ret
    exact ⟨ret_int (by unfold octN; omega), (bt B1.out B2.out).drew⟩
theorem refoctilec_any (a b c d : Int) (w : World) :
    Calls Tryz.prog 22 #[.agg #[.int .i64 a, .int .i64 b], .agg #[.int .i64 c, .int .i64 d]] w fun e w' => e = .returned (.int .i64 (ocN a b c d)) ∧ Below w.heap.size w w' := by
  cases h : nrC a b
  · exact refoctilec_no1 a b c d w h
  · cases h2 : nrC c d
    · exact refoctilec_no2 a b c d w h h2
    · exact refoctilec_yes a b c d w h h2
section
variable {W H : Int} {tl : List Nat} {f : Int → Int → Option Int} {c s ix iy iw ih : Int} {s0 : Int × Int}
/-- What the rectangle and the world share lies in the rectangle. -/
theorem has_meet {ax ay aw ah u v : Int} (hm : mtV ax ay aw ah 0 0 W H = rct ix iy iw ih) (h : has ix iy iw ih u v = true) : has ax ay aw ah u v = true := by
  have hb := (has_iff _ _ _ _ _ _).1 h
  unfold mtV at hm
  split at hm
  · rename_i hB
    unfold mtB at hB
    rw [Bool.and_eq_true] at hB
    simp only [span, rct, Value.agg.injEq, Array.mk.injEq, List.cons.injEq, Value.int.injEq, true_and, and_true] at hm
    rw [has_iff]
    refine ⟨hB.1, ?_⟩
    omega
  · simp only [zero4, rct, Value.agg.injEq, Array.mk.injEq, List.cons.injEq, Value.int.injEq, true_and, and_true] at hm
    omega
theorem Finds.both {fx fy tx ty bud o1 o2 c1 c2 : Int} {P Q : List (Int × Int)} (hb : 16384 ≤ bud) (h : Finds W H tl f c s ix iy iw ih fx fy tx ty bud o1 c1 P) (k : Finds W H tl f c s ix iy iw ih tx ty fx fy bud o2 c2 Q) : o1 = o2 ∧ c1 = c2 ∧ (o1 = 1 ∨ (o1 = 2 ∧ P = [])) := by
  rcases h with ⟨rfl, h1, h2, h3, h4⟩ | ⟨rfl, rfl, rfl, h1⟩ | ⟨rfl, rfl, rfl, h1, h2⟩
  · have hbk : Wk (stepR W H tl f c s ix iy iw ih) (fx, fy) (tx, ty) c1.toNat := h3.lst.1.back h2
    rcases k with ⟨rfl, k1, k2, k3, k4⟩ | ⟨rfl, rfl, rfl, k1⟩ | ⟨rfl, rfl, rfl, k1, k2⟩
    · have e1 := k3.lst.2 _ hbk
      have e2 := h3.lst.2 _ (k3.lst.1.back k2)
      have := h3.pos
      have := k3.pos
      exact ⟨rfl, by omega, .inl rfl⟩
    · exact absurd ⟨h2, h3.std, _, hbk⟩ k1
    · omega
  · rcases k with ⟨rfl, k1, k2, k3, k4⟩ | ⟨rfl, rfl, rfl, k1⟩ | ⟨rfl, rfl, rfl, k1, k2⟩
    · exact absurd ⟨k2, k3.std, _, k3.lst.1.back k2⟩ h1
    · exact ⟨rfl, rfl, .inr ⟨rfl, rfl⟩⟩
    · omega
  · omega
/-- Nobody is met twice on the way. -/
theorem Way.later {P : List (Int × Int)} : ∀ {x y r : Int}, At W H tl f c s ix iy iw ih s0 x y r → Way W H tl f c s ix iy iw ih s0 P x y r → ∀ q ∈ P, ∃ r', r' < r ∧ At W H tl f c s ix iy iw ih s0 q.1 q.2 r' := by
  induction P with
  | nil => intro x y r _ _ q hq; cases hq
  | cons p l ihl =>
    rintro x y r ha ⟨h1, t, h2, h3, rfl, h4⟩ q hq
    have hn := ha.next h2
    have hco := co_pos t
    rcases List.mem_cons.1 hq with rfl | hq
    · exact ⟨_, by omega, hn⟩
    · obtain ⟨r', e1, e2⟩ := ihl hn h4 q hq
      exact ⟨r', by omega, e2⟩
theorem Way.nodup {P : List (Int × Int)} : ∀ {x y r : Int}, At W H tl f c s ix iy iw ih s0 x y r → Way W H tl f c s ix iy iw ih s0 P x y r → P.Nodup := by
  induction P with
  | nil => intro x y r _ _; exact List.nodup_nil
  | cons p l ihl =>
    rintro x y r ha ⟨h1, t, h2, h3, rfl, h4⟩
    have hn := ha.next h2
    refine List.nodup_cons.2 ⟨fun hq => ?_, ihl hn h4⟩
    obtain ⟨r', e1, e2⟩ := Way.later hn h4 _ hq
    have := e2.lst.eq hn.lst
    have := e2.pos
    have := hn.pos
    omega
theorem Way.few {P : List (Int × Int)} {x y r : Int} (ha : At W H tl f c s ix iy iw ih s0 x y r) (hw : Way W H tl f c s ix iy iw ih s0 P x y r) : P.length ≤ (ih * iw).toNat :=
  few_cells (ix := ix) (iy := iy) (iw := iw) (ih := ih) (hw.nodup ha) (fun q hq => by
    have := (has_iff _ _ _ _ _ _).1 (hw.all ha q hq).1
    unfold inB
    omega)
theorem Gdn.dir {x y r : Int} {t : Fin 8} (g : Gdn W H tl f c s ix iy iw ih s0 x y r t) : dirN x y (x + dX t.val) (y + dY t.val) = ((t.val : Nat) : Int) :=
  dirN_self t.isLt (by have := g.1; rw [inn, Bool.and_eq_true] at this; exact this.1)
theorem Way.legal {P : List (Int × Int)} : ∀ {x y r : Int}, At W H tl f c s ix iy iw ih s0 x y r → Way W H tl f c s ix iy iw ih s0 P x y r → legF (stB W H tl f c s) x y P = true := by
  induction P with
  | nil => intro x y r _ _; rfl
  | cons p l ihl =>
    rintro x y r ha ⟨h1, t, h2, h3, rfl, h4⟩
    unfold legF
    simp only
    rw [h2.dir, Bool.and_eq_true]
    exact ⟨((lg_step (ix := ix) (iy := iy) (iw := iw) (ih := ih) t.isLt ha.std.2).2 ⟨h2.1, h2.2.1⟩).1, ihl (ha.next h2) h4⟩
theorem Way.cost {P : List (Int × Int)} : ∀ {x y r : Int} (n : Int), Way W H tl f c s ix iy iw ih s0 P x y r → costF x y P n = n + r := by
  induction P with
  | nil => intro x y r n h; have : r = 0 := h; subst this; simp [costF]
  | cons p l ihl =>
    rintro x y r n ⟨h1, t, h2, h3, rfl, h4⟩
    unfold costF
    simp only
    rw [h2.dir, if_neg (by omega), ihl _ h4]
    omega
end
end Go.Proofs.YtggaobcdogbjhaaGreatDoor
