/-
  The document's Octile; what follows of a way: it is legal, costs what is told, comes back at the same cost. RouteBest walked.
-/
import Derived.Test.YtggaobcdogbjhaaGreatDoorPaAll
import Derived.Test.YtggaobcdogbjhaaGreatDoorCoAll
import Derived.Deep.RegionHeld3
import Derived.Test.YtggaobcdogbjhaaGreatDoorWkAll
import Derived.Test.YtggaobcdogbjhaaGreatDoorBoth
namespace Go.Proofs.YtggaobcdogbjhaaGreatDoor
open Go.RowKit Go.Shelf
set_option linter.unusedVariables false
set_option linter.unusedSimpArgs false
set_option maxHeartbeats 400000 in
theorem abs_any (a : Int) (w : World) (ha : -9223372036854775807 ≤ a ∧ a ≤ 9223372036854775807) :
    Calls Tryz.prog 53 #[.int .i64 a] w fun e w' => e = .returned (.int .i64 (amt a)) ∧ w' = w := by
  obtain ⟨h0, h1⟩ := ha
  by_cases h : a < 0
  · rw [show amt a = -a by unfold amt; rw [if_pos h]]
    go_enter Tryz.func53, Tryz.ntmps53
    go_wp2
    go_ret
    exact ⟨rfl, rfl⟩
  · rw [show amt a = a by unfold amt; rw [if_neg h]]
    go_enter Tryz.func53, Tryz.ntmps53
    go_wp2
    go_ret
    exact ⟨rfl, rfl⟩
set_option maxHeartbeats 1000000 in
theorem refoctilec_no1 (a b c d : Int) (w : World) (h : nrC a b = false) :
    Calls Tryz.prog 22 #[.agg #[.int .i64 a, .int .i64 b], .agg #[.int .i64 c, .int .i64 d]] w fun e w' => e = .returned (.int .i64 (ocN a b c d)) ∧ Below w.heap.size w w' := by
  rw [ocN_no1 h]
  go_enter Tryz.func22, Tryz.ntmps22
  go_wp2_with (go_at_call 52; refine (refnear_any _ _ _).mono ?_; rintro e w1 ⟨rfl, hb1⟩)
  go_ret
  exact ⟨rfl, bt (box2 _ _ _) hb1⟩
set_option maxHeartbeats 1000000 in
theorem refoctilec_no2 (a b c d : Int) (w : World) (h : nrC a b = true) (h2 : nrC c d = false) :
    Calls Tryz.prog 22 #[.agg #[.int .i64 a, .int .i64 b], .agg #[.int .i64 c, .int .i64 d]] w fun e w' => e = .returned (.int .i64 (ocN a b c d)) ∧ Below w.heap.size w w' := by
  rw [ocN_no2 h2]
  go_enter Tryz.func22, Tryz.ntmps22
  go_wp2_with fail
  refine (refnear_any _ _ _).mono ?_
  rintro e w1 ⟨rfl, hb1⟩
  obtain ⟨⟨e0, e1⟩, _, z1⟩ := cells2'' hb1
  go_wp2_with fail
  refine (refnear_any _ _ _).mono ?_
  rintro e w2 ⟨rfl, hb2⟩
  go_wp2_with fail
  go_ret
  exact ⟨rfl, bt (bt (box2 _ _ _) hb1) hb2⟩
set_option maxHeartbeats 1000000 in
theorem refoctilec_yes (a b c d : Int) (w : World) (h : nrC a b = true) (h2 : nrC c d = true) :
    Calls Tryz.prog 22 #[.agg #[.int .i64 a, .int .i64 b], .agg #[.int .i64 c, .int .i64 d]] w fun e w' => e = .returned (.int .i64 (ocN a b c d)) ∧ Below w.heap.size w w' := by
  rw [ocN_yes h h2]
  obtain ⟨⟨a0, a1⟩, b0, b1⟩ := (nrC_iff a b).1 h
  obtain ⟨⟨cc0, cc1⟩, d0, d1⟩ := (nrC_iff c d).1 h2
  have HO := hide (oct_near h h2)
  have wx : IntKind.i64.wrap (a - c) = a - c := wrap_in (by omega) (by omega)
  have wy : IntKind.i64.wrap (b - d) = b - d := wrap_in (by omega) (by omega)
  go_enter Tryz.func22, Tryz.ntmps22
  go_wp2_with fail
  refine (refnear_any _ _ _).mono ?_
  rintro e w1 ⟨rfl, hb1⟩
  obtain ⟨⟨c0, c1⟩, ⟨f0, f1⟩, z0⟩ := cells2' hb1
  obtain ⟨⟨e0, e1⟩, ⟨g0, g1⟩, z1⟩ := cells2'' hb1
  have B1 := hide (bt (box2 _ _ _) hb1)
  clear hb1
  go_wp2_with fail
  refine (refnear_any _ _ _).mono ?_
  rintro e w2 ⟨rfl, hb2⟩
  obtain ⟨⟨k0, k1⟩, _⟩ := Below.two hb2 z0 c0 c1 f0 f1
  obtain ⟨⟨l0, l1⟩, _⟩ := Below.two hb2 z1 e0 e1 g0 g1
  have B2 := hide hb2
  clear hb2 c0 c1 e0 e1
  go_wp2_with fail
  go_region_held3 (fun w' => (w'.cell? ⟨w.heap.size, 0, none⟩ = some (.int .i64 a) ∧ w'.cell? ⟨w.heap.size, 1, none⟩ = some (.int .i64 b)) ∧ (w'.cell? ⟨w.heap.size + 1, 0, none⟩ = some (.int .i64 c) ∧ w'.cell? ⟨w.heap.size + 1, 1, none⟩ = some (.int .i64 d))) (go_keep)
    ((go_at_call 53; refine (abs_any _ _ (by omega)).mono ?_; rintro e w' ⟨rfl, rfl⟩))
  obtain ⟨m0, m1⟩ := amt_near ⟨a0, a1⟩ ⟨cc0, cc1⟩
  obtain ⟨n0, n1⟩ := amt_near ⟨b0, b1⟩ ⟨d0, d1⟩
  by_cases hlt : amt (b - d) < amt (a - c)
  · go_wp2_with fail
    go_ret
    exact ⟨ret_int (by unfold octN; omega), (bt B1.out B2.out).drew⟩
  · go_wp2_with fail
    go_ret
    exact ⟨ret_int (by unfold octN; omega), (bt B1.out B2.out).drew⟩
theorem refoctilec_any (a b c d : Int) (w : World) :
    Calls Tryz.prog 22 #[.agg #[.int .i64 a, .int .i64 b], .agg #[.int .i64 c, .int .i64 d]] w fun e w' => e = .returned (.int .i64 (ocN a b c d)) ∧ Below w.heap.size w w' := by
  cases h : nrC a b
  · exact refoctilec_no1 a b c d w h
  · cases h2 : nrC c d
    · exact refoctilec_no2 a b c d w h h2
    · exact refoctilec_yes a b c d w h h2
section
variable {W H : Int} {tl : List Nat} {f : Int → Int → Option Int} {c s ix iy iw ih : Int} {s0 : Int × Int}
/-- What the rectangle and the world share lies in the rectangle. -/
theorem has_meet {ax ay aw ah u v : Int} (hm : mtV ax ay aw ah 0 0 W H = rct ix iy iw ih) (h : has ix iy iw ih u v = true) : has ax ay aw ah u v = true := by
  have hb := (has_iff _ _ _ _ _ _).1 h
  unfold mtV at hm
  split at hm
  · rename_i hB
    unfold mtB at hB
    rw [Bool.and_eq_true] at hB
    simp only [span, rct, Value.agg.injEq, Array.mk.injEq, List.cons.injEq, Value.int.injEq, true_and, and_true] at hm
    rw [has_iff]
    refine ⟨hB.1, ?_⟩
    omega
  · simp only [zero4, rct, Value.agg.injEq, Array.mk.injEq, List.cons.injEq, Value.int.injEq, true_and, and_true] at hm
    omega
theorem Finds.both {fx fy tx ty bud o1 o2 c1 c2 : Int} {P Q : List (Int × Int)} (hb : 16384 ≤ bud) (h : Finds W H tl f c s ix iy iw ih fx fy tx ty bud o1 c1 P) (k : Finds W H tl f c s ix iy iw ih tx ty fx fy bud o2 c2 Q) : o1 = o2 ∧ c1 = c2 ∧ (o1 = 1 ∨ (o1 = 2 ∧ P = [])) := by
  rcases h with ⟨rfl, h1, h2, h3, h4⟩ | ⟨rfl, rfl, rfl, h1⟩ | ⟨rfl, rfl, rfl, h1, h2⟩
  · have hbk : Wk (stepR W H tl f c s ix iy iw ih) (fx, fy) (tx, ty) c1.toNat := h3.lst.1.back h2
    rcases k with ⟨rfl, k1, k2, k3, k4⟩ | ⟨rfl, rfl, rfl, k1⟩ | ⟨rfl, rfl, rfl, k1, k2⟩
    · have e1 := k3.lst.2 _ hbk
      have e2 := h3.lst.2 _ (k3.lst.1.back k2)
      have := h3.pos
      have := k3.pos
      exact ⟨rfl, by omega, .inl rfl⟩
    · exact absurd ⟨h2, h3.std, _, hbk⟩ k1
    · omega
  · rcases k with ⟨rfl, k1, k2, k3, k4⟩ | ⟨rfl, rfl, rfl, k1⟩ | ⟨rfl, rfl, rfl, k1, k2⟩
    · exact absurd ⟨k2, k3.std, _, k3.lst.1.back k2⟩ h1
    · exact ⟨rfl, rfl, .inr ⟨rfl, rfl⟩⟩
    · omega
  · omega
/-- Nobody is met twice on the way. -/
theorem Way.later {P : List (Int × Int)} : ∀ {x y r : Int}, At W H tl f c s ix iy iw ih s0 x y r → Way W H tl f c s ix iy iw ih s0 P x y r → ∀ q ∈ P, ∃ r', r' < r ∧ At W H tl f c s ix iy iw ih s0 q.1 q.2 r' := by
  induction P with
  | nil => intro x y r _ _ q hq; cases hq
  | cons p l ihl =>
    rintro x y r ha ⟨h1, t, h2, h3, rfl, h4⟩ q hq
    have hn := ha.next h2
    have hco := co_pos t
    rcases List.mem_cons.1 hq with rfl | hq
    · exact ⟨_, by omega, hn⟩
    · obtain ⟨r', e1, e2⟩ := ihl hn h4 q hq
      exact ⟨r', by omega, e2⟩
theorem Way.nodup {P : List (Int × Int)} : ∀ {x y r : Int}, At W H tl f c s ix iy iw ih s0 x y r → Way W H tl f c s ix iy iw ih s0 P x y r → P.Nodup := by
  induction P with
  | nil => intro x y r _ _; exact List.nodup_nil
  | cons p l ihl =>
    rintro x y r ha ⟨h1, t, h2, h3, rfl, h4⟩
    have hn := ha.next h2
    refine List.nodup_cons.2 ⟨fun hq => ?_, ihl hn h4⟩
    obtain ⟨r', e1, e2⟩ := Way.later hn h4 _ hq
    have := e2.lst.eq hn.lst
    have := e2.pos
    have := hn.pos
    omega
theorem Way.few {P : List (Int × Int)} {x y r : Int} (ha : At W H tl f c s ix iy iw ih s0 x y r) (hw : Way W H tl f c s ix iy iw ih s0 P x y r) : P.length ≤ (ih * iw).toNat :=
  few_cells (ix := ix) (iy := iy) (iw := iw) (ih := ih) (hw.nodup ha) (fun q hq => by
    have := (has_iff _ _ _ _ _ _).1 (hw.all ha q hq).1
    unfold inB
    omega)
theorem Gdn.dir {x y r : Int} {t : Fin 8} (g : Gdn W H tl f c s ix iy iw ih s0 x y r t) : dirN x y (x + dX t.val) (y + dY t.val) = ((t.val : Nat) : Int) :=
  dirN_self t.isLt (by have := g.1; rw [inn, Bool.and_eq_true] at this; exact this.1)
theorem Way.legal {P : List (Int × Int)} : ∀ {x y r : Int}, At W H tl f c s ix iy iw ih s0 x y r → Way W H tl f c s ix iy iw ih s0 P x y r → legF (stB W H tl f c s) x y P = true := by
  induction P with
  | nil => intro x y r _ _; rfl
  | cons p l ihl =>
    rintro x y r ha ⟨h1, t, h2, h3, rfl, h4⟩
    unfold legF
    simp only
    rw [h2.dir, Bool.and_eq_true]
    exact ⟨((lg_step (ix := ix) (iy := iy) (iw := iw) (ih := ih) t.isLt ha.std.2).2 ⟨h2.1, h2.2.1⟩).1, ihl (ha.next h2) h4⟩
theorem Way.cost {P : List (Int × Int)} : ∀ {x y r : Int} (n : Int), Way W H tl f c s ix iy iw ih s0 P x y r → costF x y P n = n + r := by
  induction P with
  | nil => intro x y r n h; have : r = 0 := h; subst this; simp [costF]
  | cons p l ihl =>
    rintro x y r n ⟨h1, t, h2, h3, rfl, h4⟩
    unfold costF
    simp only
    rw [h2.dir, if_neg (by omega), ihl _ h4]
    omega
end
end Go.Proofs.YtggaobcdogbjhaaGreatDoor
namespace Go.Proofs.YtggaobcdogbjhaaGreatDoor
open Go.RowKit Go.Shelf
set_option linter.unusedVariables false
set_option linter.unusedSimpArgs false
attribute [local go_sem] Oper.semAt_some
set_option maxRecDepth 100000 in
set_option maxHeartbeats 4000000 in
theorem best_is (W H : Int) (tv bv : Value) (tl : List Nat) (L : List Bd) (c s fx fy tx ty ax ay aw ah bu : Int) (w : World) (hv : TlR w tv tl) (hb : ∀ x ∈ tl, x < 256) (hl : BdR w bv L) (hg : Grnd w) (ho : Offs w) :
    Calls Tryz.prog 5 #[mp W H tv bv, .agg #[.int .i64 c, .int .i64 s, .int .i64 fx, .int .i64 fy, .int .i64 tx, .int .i64 ty, .int .i64 ax, .int .i64 ay, .int .i64 aw, .int .i64 ah, .int .i64 bu]] w fun e w' => e = .returned (.bool true) ∧ Below w.heap.size w w' := by
  obtain ⟨X, hX⟩ : ∃ X, (w.alloc (.cells #[.int .i64 W, .int .i64 H, tv, bv] 25)).alloc (.cells #[.int .i64 c, .int .i64 s, .int .i64 fx, .int .i64 fy, .int .i64 tx, .int .i64 ty, .int .i64 ax, .int .i64 ay, .int .i64 aw, .int .i64 ah, .int .i64 bu] 33) = X := ⟨_, rfl⟩
  have B0 : Below w.heap.size w X := hX ▸ box2 _ _ _
  have M0 : MB X w.heap.size W H tv bv := by rw [← hX]; exact (MB.new w W H tv bv).kept (box1 _ _)
  have A0 : X.heap[w.heap.size + 1]? = some (.cells #[.int .i64 c, .int .i64 s, .int .i64 fx, .int .i64 fy, .int .i64 tx, .int .i64 ty, .int .i64 ax, .int .i64 ay, .int .i64 aw, .int .i64 ah, .int .i64 bu] 33) := by
    rw [← hX]
    have := heap_alloc_new (w.alloc (.cells #[.int .i64 W, .int .i64 H, tv, bv] 25)) (.cells #[.int .i64 c, .int .i64 s, .int .i64 fx, .int .i64 fy, .int .i64 tx, .int .i64 ty, .int .i64 ax, .int .i64 ay, .int .i64 aw, .int .i64 ah, .int .i64 bu] 33)
    simpa using this
  have HC : Hid (∀ wx, Below X.heap.size X wx → (wx.cell? ⟨w.heap.size, 0, none⟩ = some (.int .i64 W) ∧ wx.cell? ⟨w.heap.size, 1, none⟩ = some (.int .i64 H) ∧ wx.cell? ⟨w.heap.size, 2, none⟩ = some tv ∧ wx.cell? ⟨w.heap.size, 3, none⟩ = some bv) ∧
      (wx.cell? ⟨w.heap.size + 1, 0, none⟩ = some (.int .i64 c) ∧ wx.cell? ⟨w.heap.size + 1, 1, none⟩ = some (.int .i64 s)) ∧ (wx.cell? ⟨w.heap.size + 1, 2, none⟩ = some (.int .i64 fx) ∧ wx.cell? ⟨w.heap.size + 1, 3, none⟩ = some (.int .i64 fy)) ∧ (wx.cell? ⟨w.heap.size + 1, 4, none⟩ = some (.int .i64 tx) ∧ wx.cell? ⟨w.heap.size + 1, 5, none⟩ = some (.int .i64 ty)) ∧
      (wx.cell? ⟨w.heap.size + 1, 6, none⟩ = some (.int .i64 ax) ∧ wx.cell? ⟨w.heap.size + 1, 7, none⟩ = some (.int .i64 ay) ∧ wx.cell? ⟨w.heap.size + 1, 8, none⟩ = some (.int .i64 aw) ∧ wx.cell? ⟨w.heap.size + 1, 9, none⟩ = some (.int .i64 ah)) ∧ wx.cell? ⟨w.heap.size + 1, 10, none⟩ = some (.int .i64 bu)) := hide fun wx q => by
    have A := (q.block _ (Array.getElem?_eq_some_iff.1 A0).1).trans A0
    refine ⟨(M0.kept q).c, ⟨?_, ?_⟩, ⟨?_, ?_⟩, ⟨?_, ?_⟩, ⟨?_, ?_, ?_, ?_⟩, ?_⟩ <;> (rw [cell_of_row _ _ _ _ _ _ A]; rfl)
  have HAw : Hid (∀ wx, Below w.heap.size w wx → Calls Tryz.prog 8 #[] wx fun e w' => e = .returned (.bool true) ∧ Below wx.heap.size wx w') := hide fun wx q => awake_is wx (hg.kept q) (ho.kept q)
  have HB0 := hide B0
  have HX := hide hX
  obtain ⟨⟨m0, m1, m2, m3⟩, ⟨a0, a1⟩, ⟨a2, a3⟩, ⟨a4, a5⟩, ⟨a6, a7, a8, a9⟩, a10⟩ := HC.out X (Below.refl _ _)
  have hvf := hv
  have hlf := hl
  obtain ⟨sa1, cap1, rfl, -⟩ := hvf
  obtain ⟨sa2, cap2, rfl, -⟩ := hlf
  rcases chkC_two W H tl L with hc | hc
  · obtain ⟨hmt, -⟩ := chkC_zero hc
    obtain ⟨⟨hW0, hW⟩, hH0, hH⟩ := mt_small hmt
    have hWH : 0 ≤ W * H ∧ W * H ≤ 128 * 128 := ⟨Int.mul_nonneg hW0 hH0, Int.mul_le_mul hW hH hH0 (by omega)⟩
    have hwm : IntKind.i64.wrap (W * H) = W * H := IntWalk.i64_in _ (by omega)
    have HBo := hide (both_ok W H _ _ tl L X (hv.kept B0) hb (hl.kept B0) hc)
    have Hgo := hide (And.intro hg (And.intro ho (And.intro hW hH)))
    have HFi : Hid (∀ (w1 : World) (ux uy vx vy ix iy iw ih : Int) (pp : Nat), Wl w1 pp W H tl (whoF L) → Below w.heap.size w w1 → mtV ax ay aw ah 0 0 W H = rct ix iy iw ih → Calls Tryz.prog 9 #[ptr pp, shv c s, cel ux uy, cel vx vy, rct ax ay aw ah, .int .i64 1048576] w1 fun e w' => ∃ (o : Int) (va : Option Addr) (vn vc : Nat) (cost : Int) (P : List (Int × Int)), e = .returned (.tuple #[.agg #[.int .i64 o, .slice va vn vc], .int .i64 cost]) ∧ Below w1.heap.size w1 w' ∧ (Cn w' (.slice va vn vc) P ∧ ∀ j, (Value.slice va vn vc).ownBlock = some j → w1.heap.size ≤ j) ∧ Finds W H tl (whoF L) c s ix iy iw ih ux uy vx vy 1048576 o cost P) := hide fun w1 ux uy vx vy ix iy iw ih pp q1 q2 q3 => (find_is pp W H tl (whoF L) c s ux uy vx vy ax ay aw ah ix iy iw ih 1048576 w1 q1 (hg.kept q2) (ho.kept q2) hW hH q3 (by omega)).mono (fun e w' h => h.way q3 hW hH)
    have HLg : Hid (∀ (wx : World) (r : Nat) (v : Value) (P : List (Int × Int)), Rl wx r W H tl L → CeR wx v P → legV (stB W H tl (whoF L) c s) fx fy P = true → Calls Tryz.prog 20 #[ptr r, shv c s, cel fx fy, v] wx fun e w' => e = .returned (.bool true) ∧ Below wx.heap.size wx w') := hide fun wx r v P q1 q2 q3 => by
      have := reflegal_of r (stB W H tl (whoF L) c s) c s fx fy v P wx q2 (fun wy hy x y => refstands_any r W H tl L c s x y wy (q1.kept hy)) (fun wy hy x y d => refsteps_of r (stB W H tl (whoF L) c s) c s x y d wy (fun wz _ => refstep_any x y d wz) (fun wz _ => refsides_any x y d wz) (fun wz hz u v => refstands_any r W H tl L c s u v wz (q1.kept (bt hy hz))))
      rwa [q3] at this
    clear hX B0 M0 A0 hv hl hb hg ho hc hmt hW0 hH0 hW hH
    go_enter Tryz.func5, Tryz.ntmps5
    go_wp2_with (first | rw [HX.out] | fail)
    refine HBo.out.mono ?_
    rintro e w1 ⟨p, r, rfl, hWn, hRl, hb1⟩
    have HW0 := hide hWn.1
    have HR0 := hide hRl
    have HP0 := hide hb1
    clear m0 m1 m2 m3 a0 a1 a2 a3 a4 a5 a6 a7 a8 a9 a10 HBo hWn hRl hb1
    obtain ⟨⟨m0, m1, m2, m3⟩, ⟨a0, a1⟩, ⟨a2, a3⟩, ⟨a4, a5⟩, ⟨a6, a7, a8, a9⟩, a10⟩ := HC.out w1 HP0.out
    by_cases hA : 700 < W * H
    · go_wp2_with fail
      refine (HAw.out _ (bt HB0.out HP0.out)).mono ?_
      rintro e w9 ⟨rfl, hb9⟩
      have HE := hide (bt (bt HB0.out HP0.out) hb9)
      clear hb9
      go_wp2_with fail
      go_ret
      exact ⟨rfl, HE.out⟩
    · obtain ⟨ix, iy, iw, ih, hmt⟩ := mtV_rect ax ay aw ah 0 0 W H
      have Hmt := hide hmt
      clear hmt
      go_wp2_with fail
      refine (HFi.out _ fx fy tx ty ix iy iw ih p HW0.out (bt HB0.out HP0.out) Hmt.out).mono ?_
      rintro e v1 ⟨o1, va1, vn1, vc1, c1, P, rfl, hb1, ⟨hcn1, -⟩, hs1⟩
      obtain ⟨Y1, hY1⟩ : ∃ Y, v1.alloc (.cells #[.int .i64 o1, .slice va1 vn1 vc1] 41) = Y := ⟨_, rfl⟩
      have BY1 : Below v1.heap.size v1 Y1 := hY1 ▸ box1 _ _
      have R1 : Y1.heap[v1.heap.size]? = some (.cells #[.int .i64 o1, .slice va1 vn1 vc1] 41) := hY1 ▸ heap_alloc_new v1 _
      have HY1 := hide hY1
      have HP1 := hide (bt HP0.out (bt hb1 BY1))
      have HW1 := hide (HW0.out.kept (bt hb1 BY1))
      have HRl1 := hide (HR0.out.kept (bt hb1 BY1))
      have Hs1 := hide hs1
      have HCn := hide (And.intro (hcn1.turned (Turns.of_below (S := NoB) BY1) (fun _ _ => id)) R1)
      clear m0 m1 m2 m3 a0 a1 a2 a3 a4 a5 a6 a7 a8 a9 a10 hb1 hs1 hY1 BY1 R1 hcn1
      obtain ⟨⟨m0, m1, m2, m3⟩, ⟨a0, a1⟩, ⟨a2, a3⟩, ⟨a4, a5⟩, ⟨a6, a7, a8, a9⟩, a10⟩ := HC.out Y1 HP1.out
      go_wp2_with (first | rw [HY1.out] | fail)
      refine (HFi.out _ tx ty fx fy ix iy iw ih p HW1.out (bt HB0.out HP1.out) Hmt.out).mono ?_
      rintro e v2 ⟨o2, va2, vn2, vc2, c2, Q, rfl, hb2, ⟨hcn2, -⟩, hs2⟩
      obtain ⟨Y2, hY2⟩ : ∃ Y, v2.alloc (.cells #[.int .i64 o2, .slice va2 vn2 vc2] 41) = Y := ⟨_, rfl⟩
      have BY2 : Below v2.heap.size v2 Y2 := hY2 ▸ box1 _ _
      have R2 : Y2.heap[v2.heap.size]? = some (.cells #[.int .i64 o2, .slice va2 vn2 vc2] 41) := hY2 ▸ heap_alloc_new v2 _
      have HY2 := hide hY2
      have HP2 := hide (bt HP1.out (bt hb2 BY2))
      have HRl2 := hide (HRl1.out.kept (bt hb2 BY2))
      obtain ⟨ho, hcc, hcase⟩ := Hs1.out.both (by omega) hs2
      subst ho; subst hcc
      have hB12 := bt hb2 BY2
      have HR1 : Hid (∀ wx, Below Y2.heap.size Y2 wx → wx.heap[v1.heap.size]? = some (.cells #[.int .i64 o1, .slice va1 vn1 vc1] 41)) := hide fun wx q => ((bt hB12 q).block _ (Array.getElem?_eq_some_iff.1 HCn.out.2).1).trans HCn.out.2
      have HCn2 := hide (HCn.out.1.turned (Turns.of_below (S := NoB) hB12) (fun _ _ => id))
      have Hcase := hide hcase
      obtain ⟨⟨x0, x1⟩, -, -⟩ := res_cells (HR1.out _ (Below.refl _ _))
      obtain ⟨⟨y0, y1⟩, -, -⟩ := res_cells R2
      clear m0 m1 m2 m3 a0 a1 a2 a3 a4 a5 a6 a7 a8 a9 a10 hb2 hs2 hY2 BY2 R2 hcn2 hcase hB12 HY1 HW1 HCn HRl1 HFi
      obtain ⟨xb, hxb⟩ : ∃ xb, v1.heap.size = xb := ⟨_, rfl⟩
      rw [hxb] at HR1 x0 x1
      by_cases ho1 : o1 = 1
      · subst ho1
        obtain ⟨hle, hst, hat, hway⟩ : c1 ≤ 229376 ∧ Std W H tl (whoF L) c s ix iy iw ih (tx, ty) ∧ At W H tl (whoF L) c s ix iy iw ih (tx, ty) fx fy c1 ∧ Way W H tl (whoF L) c s ix iy iw ih (tx, ty) P fx fy c1 := by
          rcases Hs1.out with ⟨-, h1, h2, h3, h4⟩ | ⟨q, -⟩ | ⟨q, -⟩
          · exact ⟨h1, h2, h3, h4⟩
          · cases q
          · cases q
        obtain ⟨r1, r2, r3⟩ := rect_ok Hmt.out Hgo.out.2.2.1 Hgo.out.2.2.2 hst.1
        obtain ⟨-, har⟩ := area_le r1 (by omega) (by omega) Hgo.out.2.2.1 Hgo.out.2.2.2
        have hcm : ih * iw = iw * ih := Int.mul_comm _ _
        have hfew := hway.few hat
        have hPl : P.length ≤ 16384 := by omega
        obtain ⟨hce, a9', cap9, hve, hga, hcap⟩ := HCn2.out.ceR (by omega)
        injection hve with e1 e2 e3
        subst e1; subst e2; subst e3
        have hleg : legV (stB W H tl (whoF L) c s) fx fy P = true := by
          unfold legV
          rw [hway.legal hat, Bool.and_true]
          exact hat.std.2
        have hpos := hat.pos
        have hcost : costV fx fy P = c1 := by
          unfold costV
          rw [if_neg (by omega), hway.cost 0]
          omega
        have hoct : ocN fx fy tx ty ≤ c1 := by
          have h9 := adm (by have := Hgo.out.2.2; omega) (show inB ix iy iw ih (tx, ty) from ⟨r2, r3⟩) (fx, fy) _ (hat.lst.1.back hst)
          simp only at h9
          have := ocN_nonneg fx fy tx ty
          omega
        have hlast := hway.last hat
        have hall : ∀ q ∈ P, has ax ay aw ah q.1 q.2 = true := fun q hq => has_meet Hmt.out (hway.all hat q hq).1
        have Hway := hide (And.intro hleg (And.intro hcost (And.intro hoct (And.intro hlast hall))))
        have HCe := hide hce
        have hP63 : (0 : Int) ≤ (P.length : Nat) ∧ ((P.length : Nat) : Int) ≤ 16384 := by omega
        clear hle hst hat hway r1 r2 r3 har hcm hfew hce hga hcap hleg hpos hcost hoct hlast hall Hs1 HCn2 Hcase hPl hWH
        go_wp2_with (first | rw [HY2.out] | fail)
        try rw [hxb]
        clear x0 x1 y0 y1 HY2
        go_loopw [12] (fun s12 wr => ∃ k : Nat, s12 = .int .i64 (k : Nat) ∧ k ≤ P.length ∧ Below Y2.heap.size Y2 wr) (fun s12 _ => P.length - (intOf s12).toNat)
        case atStart => exact ⟨0, rfl, Nat.zero_le _, Below.refl _ _⟩
        case round =>
          obtain ⟨k, rfl, hk, hB⟩ := hrel
          obtain ⟨⟨x0, x1⟩, -, -⟩ := res_cells (HR1.out _ hB)
          by_cases hlt : k < P.length
          · obtain ⟨q, hq⟩ : ∃ q, P[k]? = some q := ⟨_, List.getElem?_eq_getElem hlt⟩
            have hhas := Hway.out.2.2.2.2 q (List.mem_of_getElem? hq)
            obtain ⟨g, o, hga, hgl, c0, c1'⟩ : ∃ g o, va1 = some ⟨g, o, none⟩ ∧ g < wr.heap.size ∧ wr.cell? ⟨g, o + k * 2, none⟩ = some (.int .i64 q.1) ∧ wr.cell? ⟨g, o + k * 2 + 1, none⟩ = some (.int .i64 q.2) := by
              obtain ⟨a', cap', he', _, _, _, hform⟩ := HCe.out.kept hB
              obtain ⟨g', o', hgg, h0, e1, e2⟩ := hform k q hq
              injection he' with h1 h2 h3
              exact ⟨g', o', h1.trans hgg, h0, e1, e2⟩
            subst hga
            have hki : (0 : Int) ≤ (k : Nat) ∧ (k : Int) < (P.length : Nat) := by omega
            have l0 : ∀ n : Lat wr, n.w.cell? ⟨g, o + k * 2, none⟩ = some (.int .i64 q.1) := fun n => (n.h.cell (p := ⟨g, _, none⟩) hgl).trans c0
            have l1 : ∀ n : Lat wr, n.w.cell? ⟨g, o + k * 2 + 1, none⟩ = some (.int .i64 q.2) := fun n => (n.h.cell (p := ⟨g, _, none⟩) hgl).trans c1'
            have lats := fun n : Lat wr => HC.out n.w (bt HP2.out (bt hB n.h))
            have k6 : ∀ n : Lat wr, n.w.cell? ⟨w.heap.size + 1, 6, none⟩ = some (.int .i64 ax) := fun n => (lats n).2.2.2.2.1.1
            have k7 : ∀ n : Lat wr, n.w.cell? ⟨w.heap.size + 1, 7, none⟩ = some (.int .i64 ay) := fun n => (lats n).2.2.2.2.1.2.1
            have k8 : ∀ n : Lat wr, n.w.cell? ⟨w.heap.size + 1, 8, none⟩ = some (.int .i64 aw) := fun n => (lats n).2.2.2.2.1.2.2.1
            have k9 : ∀ n : Lat wr, n.w.cell? ⟨w.heap.size + 1, 9, none⟩ = some (.int .i64 ah) := fun n => (lats n).2.2.2.2.1.2.2.2
            have lx : ∀ n : Lat wr, n.w.cell? ⟨xb, 1, none⟩ = some (.slice (some ⟨g, o, none⟩) P.length vc1) := fun n => (res_cells (HR1.out _ (bt hB n.h))).1.2
            have hne := lat_some wr
            have Hhas := hide hhas
            have HB := hide hB
            clear lats c0 c1' hB hhas
            go_wp2_with fail
            refine wp_region_lat (by kernel_rfl) (by kernel_rfl) ?_
            repeat (go_big_quiet_step (first | (go_at_call 18; exact calls_lat (refhas_is _ Hhas.out))))
            refine wpQuiet_nil ?_
            rintro _ ⟨m, rfl⟩
            have HB2 := hide (bt HB.out m.h)
            clear l0 l1 k6 k7 k8 k9 lx hne x0 x1
            go_wp2_with fail
            go_roundw
            case rel => exact ⟨k + 1, by go_num, by omega, HB2.out⟩
            case measure => simp [intOf]; omega
          · have hki : ¬ ((k : Nat) : Int) < (P.length : Nat) := by omega
            have HB := hide hB
            obtain ⟨-, -, ⟨f2, f3⟩, -⟩ := HC.out wr (bt HP2.out hB)
            obtain ⟨Z, hZ⟩ : ∃ Z, wr.alloc (.cells #[.int .i64 fx, .int .i64 fy] 29) = Z := ⟨_, rfl⟩
            have BZ : Below wr.heap.size wr Z := hZ ▸ box1 _ _
            have TZ : Two Z wr.heap.size fx fy := by rw [← hZ]; exact Two.newAt rfl
            have HZ := hide hZ
            have HBZ := hide (bt hB BZ)
            have HTZ := hide TZ
            have Hzb : Hid (Y2.heap.size ≤ wr.heap.size) := hide hB.size
            clear hB BZ TZ hZ
            rcases List.eq_nil_or_concat P with hP | ⟨P', q, hP⟩
            · subst hP
              have hend : fx = tx ∧ fy = ty := by have := Hway.out.2.2.2.1; simpa using this
              obtain ⟨rfl, rfl⟩ := hend
              obtain ⟨⟨m0, m1, m2, m3⟩, ⟨a0, a1⟩, ⟨a2, a3⟩, ⟨a4, a5⟩, ⟨a6, a7, a8, a9⟩, a10⟩ := HC.out Z (bt HP2.out HBZ.out)
              obtain ⟨⟨y0, y1⟩, -, -⟩ := res_cells (HR1.out _ HBZ.out)
              obtain ⟨⟨z0, z1⟩, ⟨z2, z3⟩, -⟩ := HTZ.out
              have hl0 : ((([] : List (Int × Int)).length : Nat) : Int) = 0 := rfl
              go_wp2_with (first | rw [HZ.out] | fail)
              refine (HLg.out _ r _ [] (HRl2.out.kept HBZ.out) (HCe.out.kept HBZ.out) Hway.out.1).mono ?_
              rintro e u1 ⟨rfl, hb1⟩
              have HU1 := hide (bt HBZ.out hb1)
              clear x0 x1 y0 y1 f2 f3 z0 z1 z2 z3
              clear m0 m1 m2 m3 a0 a1 a2 a3 a4 a5 a6 a7 a8 a9 a10 hb1
              obtain ⟨⟨m0, m1, m2, m3⟩, ⟨a0, a1⟩, ⟨a2, a3⟩, ⟨a4, a5⟩, ⟨a6, a7, a8, a9⟩, a10⟩ := HC.out u1 (bt HP2.out HU1.out)
              obtain ⟨⟨x0, x1⟩, -, -⟩ := res_cells (HR1.out _ HU1.out)
              go_wp2_with fail
              refine (show Calls Tryz.prog 21 _ u1 _ from (by have := refpcost_any fx fy _ [] u1 (HCe.out.kept HU1.out); rwa [Hway.out.2.1] at this)).mono ?_
              rintro e u2 ⟨rfl, hb2⟩
              have HU2 := hide (bt HU1.out hb2)
              clear x0 x1
              clear m0 m1 m2 m3 a0 a1 a2 a3 a4 a5 a6 a7 a8 a9 a10 hb2
              obtain ⟨⟨m0, m1, m2, m3⟩, ⟨a0, a1⟩, ⟨a2, a3⟩, ⟨a4, a5⟩, ⟨a6, a7, a8, a9⟩, a10⟩ := HC.out u2 (bt HP2.out HU2.out)
              go_wp2_with fail
              refine (refoctilec_any fx fy fx fy u2).mono ?_
              rintro e u3 ⟨rfl, hb3⟩
              have HU3 := hide (bt HU2.out hb3)
              obtain ⟨ocv, hocv⟩ : ∃ ocv, ocN fx fy fx fy = ocv := ⟨_, rfl⟩
              have hoc : ocv ≤ c1 := by rw [← hocv]; exact Hway.out.2.2.1
              rw [hocv]
              clear m0 m1 m2 m3 a0 a1 a2 a3 a4 a5 a6 a7 a8 a9 a10 hb3 hocv
              go_wp2_with fail
              refine (HAw.out _ (bt HB0.out (bt HP2.out HU3.out))).mono ?_
              rintro e w9 ⟨rfl, hb9⟩
              have HE := hide (bt (bt HB0.out (bt HP2.out HU3.out)) hb9)
              clear hb9
              go_wp2_with fail
              go_ret
              exact ⟨rfl, HE.out⟩
            · have hend : q = (tx, ty) := by
                have h9 := Hway.out.2.2.2.1
                rw [hP, List.concat_eq_append, ← List.cons_append, List.getLast?_concat] at h9
                injection h9
              subst hend
              have hlen : 0 < P.length := by rw [hP]; simp
              have hq : P[P.length - 1]? = some (tx, ty) := by rw [hP]; simp
              obtain ⟨g, o, hga, hgl, c0, c1'⟩ : ∃ g o, va1 = some ⟨g, o, none⟩ ∧ g < Z.heap.size ∧ Z.cell? ⟨g, o + (P.length - 1) * 2, none⟩ = some (.int .i64 tx) ∧ Z.cell? ⟨g, o + (P.length - 1) * 2 + 1, none⟩ = some (.int .i64 ty) := by
                obtain ⟨a', cap', he', _, _, _, hform⟩ := HCe.out.kept HBZ.out
                obtain ⟨g', o', hgg, h0, e1, e2⟩ := hform _ _ hq
                injection he' with h1 h2 h3
                exact ⟨g', o', h1.trans hgg, h0, e1, e2⟩
              subst hga
              obtain ⟨j, hj⟩ : ∃ j, P.length - 1 = j := ⟨_, rfl⟩
              rw [hj] at c0 c1'
              have hjw : IntKind.i64.wrap (((P.length : Nat) : Int) - 1) = ((j : Nat) : Int) := by rw [← hj]; rw [IntWalk.i64_in _ (by omega)]; omega
              have hlI : (0 : Int) < (P.length : Nat) := by omega
              have hjI : (0 : Int) ≤ (j : Nat) ∧ ((j : Nat) : Int) < (P.length : Nat) := by omega
              clear hP hj hq
              obtain ⟨V, hV⟩ : ∃ V, (Z.setCell ⟨wr.heap.size, 0, none⟩ (.int .i64 tx)).setCell ⟨wr.heap.size, 1, none⟩ (.int .i64 ty) = V := ⟨_, rfl⟩
              have TV : Two V wr.heap.size tx ty := hV ▸ HTZ.out.set
              have BV : Below Y2.heap.size Y2 V := hV ▸ (HBZ.out.setCell (p := ⟨wr.heap.size, 0, none⟩) Hzb.out _).setCell (p := ⟨wr.heap.size, 1, none⟩) Hzb.out _
              have HBV := hide BV
              have HV := hide hV
              obtain ⟨⟨m0, m1, m2, m3⟩, ⟨a0, a1⟩, ⟨a2, a3⟩, ⟨a4, a5⟩, ⟨a6, a7, a8, a9⟩, a10⟩ := HC.out V (bt HP2.out BV)
              obtain ⟨⟨y0, y1⟩, -, -⟩ := res_cells (HR1.out _ HBZ.out)
              obtain ⟨⟨x2, x3⟩, -, -⟩ := res_cells (HR1.out _ BV)
              obtain ⟨⟨z0, z1⟩, ⟨z2, z3⟩, -⟩ := HTZ.out
              obtain ⟨⟨u0, u1⟩, -, -⟩ := TV
              clear BV hV
              go_wp2_with (first | rw [HZ.out] | rw [HV.out] | fail)
              refine (HLg.out _ r _ P (HRl2.out.kept HBV.out) (HCe.out.kept HBV.out) Hway.out.1).mono ?_
              rintro e ua ⟨rfl, hb1⟩
              have HU1 := hide (bt HBV.out hb1)
              clear x0 x1 y0 y1 f2 f3 x2 x3 z0 z1 z2 z3 u0 u1
              clear m0 m1 m2 m3 a0 a1 a2 a3 a4 a5 a6 a7 a8 a9 a10 hb1
              obtain ⟨⟨m0, m1, m2, m3⟩, ⟨a0, a1⟩, ⟨a2, a3⟩, ⟨a4, a5⟩, ⟨a6, a7, a8, a9⟩, a10⟩ := HC.out ua (bt HP2.out HU1.out)
              obtain ⟨⟨x0, x1⟩, -, -⟩ := res_cells (HR1.out _ HU1.out)
              go_wp2_with fail
              refine (show Calls Tryz.prog 21 _ ua _ from (by have := refpcost_any fx fy _ P ua (HCe.out.kept HU1.out); rwa [Hway.out.2.1] at this)).mono ?_
              rintro e u2 ⟨rfl, hb2⟩
              have HU2 := hide (bt HU1.out hb2)
              clear x0 x1
              clear m0 m1 m2 m3 a0 a1 a2 a3 a4 a5 a6 a7 a8 a9 a10 hb2
              obtain ⟨⟨m0, m1, m2, m3⟩, ⟨a0, a1⟩, ⟨a2, a3⟩, ⟨a4, a5⟩, ⟨a6, a7, a8, a9⟩, a10⟩ := HC.out u2 (bt HP2.out HU2.out)
              go_wp2_with fail
              refine (refoctilec_any fx fy tx ty u2).mono ?_
              rintro e u3 ⟨rfl, hb3⟩
              have HU3 := hide (bt HU2.out hb3)
              obtain ⟨ocv, hocv⟩ : ∃ ocv, ocN fx fy tx ty = ocv := ⟨_, rfl⟩
              have hoc : ocv ≤ c1 := by rw [← hocv]; exact Hway.out.2.2.1
              rw [hocv]
              clear m0 m1 m2 m3 a0 a1 a2 a3 a4 a5 a6 a7 a8 a9 a10 hb3 hocv
              go_wp2_with fail
              refine (HAw.out _ (bt HB0.out (bt HP2.out HU3.out))).mono ?_
              rintro e w9 ⟨rfl, hb9⟩
              have HE := hide (bt (bt HB0.out (bt HP2.out HU3.out)) hb9)
              clear hb9
              go_wp2_with fail
              go_ret
              exact ⟨rfl, HE.out⟩
      · have ho2 : o1 = 2 ∧ P = [] := Hcase.out.resolve_left ho1
        obtain ⟨rfl, rfl⟩ := ho2
        obtain ⟨-, a9', cap9, hve, -, -⟩ := HCn2.out.ceR (by simp)
        injection hve with e1 e2 e3
        subst e1; subst e2; subst e3
        have hl0 : ((([] : List (Int × Int)).length : Nat) : Int) = 0 := rfl
        go_wp2_with (first | rw [HY2.out] | fail)
        refine (HAw.out _ (bt HB0.out HP2.out)).mono ?_
        rintro e w9 ⟨rfl, hb9⟩
        have HE := hide (bt (bt HB0.out HP2.out) hb9)
        clear hb9
        go_wp2_with fail
        go_ret
        exact ⟨rfl, HE.out⟩
  · have HBo := hide (both_no W H _ _ tl L X (hv.kept B0) hb (hl.kept B0) hc)
    clear hX B0 M0 A0 hv hl hb hg ho hc
    go_enter Tryz.func5, Tryz.ntmps5
    go_wp2_with (first | rw [HX.out] | fail)
    refine HBo.out.mono ?_
    rintro e w1 ⟨rfl, hb1⟩
    have HB1 := hide hb1
    clear m0 m1 m2 m3 a0 a1 a2 a3 a4 a5 a6 a7 a8 a9 a10 HBo hb1
    go_wp2_with fail
    refine (HAw.out _ (bt HB0.out HB1.out)).mono ?_
    rintro e w9 ⟨rfl, hb9⟩
    have HE := hide (bt (bt HB0.out HB1.out) hb9)
    clear hb9
    go_wp2_with fail
    go_ret
    exact ⟨rfl, HE.out⟩
end Go.Proofs.YtggaobcdogbjhaaGreatDoor
