/-
  RouteParts walked.
-/
import Derived.Test.YtggaobcdogbjhaaGreatDoorWkAll
import Derived.Test.YtggaobcdogbjhaaGreatDoorBoth
import Derived.Test.YtggaobcdogbjhaaGreatDoorPaAll
namespace Go.Proofs.YtggaobcdogbjhaaGreatDoor
open Go.RowKit Go.Shelf
set_option linter.unusedVariables false
set_option linter.unusedSimpArgs false
attribute [local go_sem] Oper.semAt_some
theorem run_call25c {ev : Operand → Value} {o : Oper} {w : World} {ar : Array Operand} {ts : Array TypeId} {vs : Array Value} (hop : o.op = .call { callee := .value (.func 25), args := ar, argTypes := ts }) (hf : ev (.func 25) = .func (.func 25) #[] #[]) (hvs : ar.map ev = vs) : (execOp ev o).run Tryz.prog w = .ok (.enter 25 vs) w := by
  unfold execOp
  simp only [hop, resolve, hf, hvs]
  go_simp
set_option maxRecDepth 100000 in
set_option maxHeartbeats 4000000 in
theorem parts_is (W H : Int) (tv bv : Value) (tl : List Nat) (L : List Bd) (c s fx fy tx ty ax ay aw ah bu : Int) (w : World) (hv : TlR w tv tl) (hb : ∀ x ∈ tl, x < 256) (hl : BdR w bv L) (hg : Grnd w) (ho : Offs w) :
    Calls Tryz.prog 6 #[mp W H tv bv, .agg #[.int .i64 c, .int .i64 s, .int .i64 fx, .int .i64 fy, .int .i64 tx, .int .i64 ty, .int .i64 ax, .int .i64 ay, .int .i64 aw, .int .i64 ah, .int .i64 bu]] w fun e w' => e = .returned (.bool true) ∧ Below w.heap.size w w' := by
  obtain ⟨X, hX⟩ : ∃ X, (w.alloc (.cells #[.int .i64 W, .int .i64 H, tv, bv] 25)).alloc (.cells #[.int .i64 c, .int .i64 s, .int .i64 fx, .int .i64 fy, .int .i64 tx, .int .i64 ty, .int .i64 ax, .int .i64 ay, .int .i64 aw, .int .i64 ah, .int .i64 bu] 33) = X := ⟨_, rfl⟩
  have B0 : Below w.heap.size w X := hX ▸ box2 _ _ _
  have M0 : MB X w.heap.size W H tv bv := by rw [← hX]; exact (MB.new w W H tv bv).kept (box1 _ _)
  have A0 : X.heap[w.heap.size + 1]? = some (.cells #[.int .i64 c, .int .i64 s, .int .i64 fx, .int .i64 fy, .int .i64 tx, .int .i64 ty, .int .i64 ax, .int .i64 ay, .int .i64 aw, .int .i64 ah, .int .i64 bu] 33) := by
    rw [← hX]
    have := heap_alloc_new (w.alloc (.cells #[.int .i64 W, .int .i64 H, tv, bv] 25)) (.cells #[.int .i64 c, .int .i64 s, .int .i64 fx, .int .i64 fy, .int .i64 tx, .int .i64 ty, .int .i64 ax, .int .i64 ay, .int .i64 aw, .int .i64 ah, .int .i64 bu] 33)
    simpa using this
  have HC : Hid (∀ wx, Below X.heap.size X wx → (wx.cell? ⟨w.heap.size, 0, none⟩ = some (.int .i64 W) ∧ wx.cell? ⟨w.heap.size, 1, none⟩ = some (.int .i64 H) ∧ wx.cell? ⟨w.heap.size, 2, none⟩ = some tv ∧ wx.cell? ⟨w.heap.size, 3, none⟩ = some bv) ∧
      (wx.cell? ⟨w.heap.size + 1, 0, none⟩ = some (.int .i64 c) ∧ wx.cell? ⟨w.heap.size + 1, 1, none⟩ = some (.int .i64 s)) ∧ (wx.cell? ⟨w.heap.size + 1, 2, none⟩ = some (.int .i64 fx) ∧ wx.cell? ⟨w.heap.size + 1, 3, none⟩ = some (.int .i64 fy)) ∧ (wx.cell? ⟨w.heap.size + 1, 4, none⟩ = some (.int .i64 tx) ∧ wx.cell? ⟨w.heap.size + 1, 5, none⟩ = some (.int .i64 ty)) ∧
      (wx.cell? ⟨w.heap.size + 1, 6, none⟩ = some (.int .i64 ax) ∧ wx.cell? ⟨w.heap.size + 1, 7, none⟩ = some (.int .i64 ay) ∧ wx.cell? ⟨w.heap.size + 1, 8, none⟩ = some (.int .i64 aw) ∧ wx.cell? ⟨w.heap.size + 1, 9, none⟩ = some (.int .i64 ah)) ∧ wx.cell? ⟨w.heap.size + 1, 10, none⟩ = some (.int .i64 bu)) := hide fun wx q => by
    have A := (q.block _ (Array.getElem?_eq_some_iff.1 A0).1).trans A0
    refine ⟨(M0.kept q).c, ⟨?_, ?_⟩, ⟨?_, ?_⟩, ⟨?_, ?_⟩, ⟨?_, ?_, ?_, ?_⟩, ?_⟩ <;> (rw [cell_of_row _ _ _ _ _ _ A]; rfl)
  have HAw : Hid (∀ wx, Below w.heap.size w wx → Calls Tryz.prog 8 #[] wx fun e w' => e = .returned (.bool true) ∧ Below wx.heap.size wx w') := hide fun wx q => awake_is wx (hg.kept q) (ho.kept q)
  have HB0 := hide B0
  have HX := hide hX
  obtain ⟨⟨m0, m1, m2, m3⟩, ⟨a0, a1⟩, ⟨a2, a3⟩, ⟨a4, a5⟩, ⟨a6, a7, a8, a9⟩, a10⟩ := HC.out X (Below.refl _ _)
  have hvf := hv
  have hlf := hl
  obtain ⟨sa1, cap1, rfl, -⟩ := hvf
  obtain ⟨sa2, cap2, rfl, -⟩ := hlf
  rcases chkC_two W H tl L with hc | hc
  · obtain ⟨hmt, -⟩ := chkC_zero hc
    obtain ⟨⟨hW0, hW⟩, hH0, hH⟩ := mt_small hmt
    have hWH : 0 ≤ W * H ∧ W * H ≤ 128 * 128 := ⟨Int.mul_nonneg hW0 hH0, Int.mul_le_mul hW hH hH0 (by omega)⟩
    have hwm : IntKind.i64.wrap (W * H) = W * H := IntWalk.i64_in _ (by omega)
    have HBo := hide (both_ok W H _ _ tl L X (hv.kept B0) hb (hl.kept B0) hc)
    have Hgo := hide (And.intro hg (And.intro ho (And.intro hW hH)))
    have HFi : Hid (∀ (w1 : World) (ux uy vx vy ix iy iw ih : Int) (pp : Nat), Wl w1 pp W H tl (whoF L) → Below w.heap.size w w1 → mtV ax ay aw ah 0 0 W H = rct ix iy iw ih → Calls Tryz.prog 9 #[ptr pp, shv c s, cel ux uy, cel vx vy, rct ax ay aw ah, .int .i64 1048576] w1 fun e w' => ∃ (o : Int) (va : Option Addr) (vn vc : Nat) (cost : Int) (P : List (Int × Int)), e = .returned (.tuple #[.agg #[.int .i64 o, .slice va vn vc], .int .i64 cost]) ∧ Below w1.heap.size w1 w' ∧ (Cn w' (.slice va vn vc) P ∧ ∀ j, (Value.slice va vn vc).ownBlock = some j → w1.heap.size ≤ j) ∧ Finds W H tl (whoF L) c s ix iy iw ih ux uy vx vy 1048576 o cost P) := hide fun w1 ux uy vx vy ix iy iw ih pp q1 q2 q3 => (find_is pp W H tl (whoF L) c s ux uy vx vy ax ay aw ah ix iy iw ih 1048576 w1 q1 (hg.kept q2) (ho.kept q2) hW hH q3 (by omega)).mono (fun e w' h => h.way q3 hW hH)
    clear hX B0 M0 A0 hv hl hb hg ho hc hmt hW0 hH0 hW hH
    go_enter Tryz.func6, Tryz.ntmps6
    go_wp2_with (first | rw [HX.out] | fail)
    refine HBo.out.mono ?_
    rintro e w1 ⟨p, r, rfl, hWn, hRl, hb1⟩
    have HW0 := hide hWn.1
    have HR0 := hide hRl
    have HP0 := hide hb1
    clear m0 m1 m2 m3 a0 a1 a2 a3 a4 a5 a6 a7 a8 a9 a10 HBo hWn hRl hb1
    obtain ⟨⟨m0, m1, m2, m3⟩, ⟨a0, a1⟩, ⟨a2, a3⟩, ⟨a4, a5⟩, ⟨a6, a7, a8, a9⟩, a10⟩ := HC.out w1 HP0.out
    by_cases hA : 700 < W * H
    · go_wp2_with fail
      refine (HAw.out _ (bt HB0.out HP0.out)).mono ?_
      rintro e w9 ⟨rfl, hb9⟩
      have HE := hide (bt (bt HB0.out HP0.out) hb9)
      clear hb9
      go_wp2_with fail
      go_ret
      exact ⟨rfl, HE.out⟩
    · obtain ⟨ix, iy, iw, ih, hmt⟩ := mtV_rect ax ay aw ah 0 0 W H
      go_wp2_with fail
      refine (HFi.out _ fx fy tx ty ix iy iw ih p HW0.out (bt HB0.out HP0.out) hmt).mono ?_
      rintro e v1 ⟨o1, va1, vn1, vc1, c1, P, rfl, hb1, ⟨hcn, -⟩, hs1⟩
      have hPl : P.length ≤ 22938 ∧ (0 ≤ c1 ∧ c1 ≤ 229376) ∧ (P = [] ∧ c1 = 0 ∨ (Std W H tl (whoF L) c s ix iy iw ih (tx, ty) ∧ At W H tl (whoF L) c s ix iy iw ih (tx, ty) fx fy c1 ∧ Way W H tl (whoF L) c s ix iy iw ih (tx, ty) P fx fy c1)) := by
        rcases hs1 with ⟨rfl, h1, h2, h3, h4⟩ | ⟨rfl, rfl, rfl, h1⟩ | ⟨rfl, rfl, rfl, h1, h2⟩
        · have := h4.len; have := h3.pos; exact ⟨by omega, by omega, .inr ⟨h2, h3, h4⟩⟩
        · exact ⟨by simp, by omega, .inl ⟨rfl, rfl⟩⟩
        · exact ⟨by simp, by omega, .inl ⟨rfl, rfl⟩⟩
      obtain ⟨hPl, hc1, hway⟩ := hPl
      obtain ⟨hce, a9', cap, hve, hga, hcap⟩ := hcn.ceR (by omega)
      injection hve with e1 e2 e3
      subst e1; subst e2; subst e3
      obtain ⟨Y1, hY1⟩ : ∃ Y, v1.alloc (.cells #[.int .i64 o1, .slice va1 P.length vc1] 41) = Y := ⟨_, rfl⟩
      have BY1 : Below v1.heap.size v1 Y1 := hY1 ▸ box1 _ _
      have R1 : Y1.heap[v1.heap.size]? = some (.cells #[.int .i64 o1, .slice va1 P.length vc1] 41) := hY1 ▸ heap_alloc_new v1 _
      have HY1 := hide hY1
      have HP1 := hide (bt HP0.out (bt hb1 BY1))
      have HW1 := hide (HW0.out.kept (bt hb1 BY1))
      have HCe := hide (hce.kept BY1)
      have Hway := hide hway
      have zY1 : Y1.heap.size = v1.heap.size + 1 := by rw [← hY1]; simp
      have Hz := hide zY1
      obtain ⟨Y2, hY2⟩ : ∃ Y, Y1.alloc (.cells #[.int .i64 fx, .int .i64 fy] 29) = Y := ⟨_, rfl⟩
      have BY2 : Below Y1.heap.size Y1 Y2 := hY2 ▸ box1 _ _
      have T2 : Two Y2 Y1.heap.size fx fy := by rw [← hY2]; exact Two.newAt rfl
      rw [zY1] at T2
      have HY2 := hide hY2
      have HT2 := hide T2
      have HBY2 := hide BY2
      have HR1 : Hid (∀ wx, Below Y1.heap.size Y1 wx → wx.heap[v1.heap.size]? = some (.cells #[.int .i64 o1, .slice va1 P.length vc1] 41)) := hide fun wx q => (q.block _ (Array.getElem?_eq_some_iff.1 R1).1).trans R1
      have hP63 : (0 : Int) ≤ (P.length : Nat) ∧ ((P.length : Nat) : Int) ≤ 22938 := by omega
      have Hc1 := hide hc1
      have Hga := hide hga
      have Hcap := hide hcap
      obtain ⟨xb, hxb⟩ : ∃ xb, v1.heap.size = xb := ⟨_, rfl⟩
      have Hmt := hide hmt
      clear m0 m1 m2 m3 a0 a1 a2 a3 a4 a5 a6 a7 a8 a9 a10 hb1 hs1 hY1 BY1 R1 hcn hce hway hY2 BY2 T2 hga hcap hPl hc1 zY1 hmt
      obtain ⟨⟨m0, m1, m2, m3⟩, ⟨a0, a1⟩, ⟨a2, a3⟩, ⟨a4, a5⟩, ⟨a6, a7, a8, a9⟩, a10⟩ := HC.out Y1 HP1.out
      go_wp2_with (first | rw [HY1.out] | rw [HY2.out])
      rw [hxb] at HR1 Hz HT2
      try rw [Hz.out]
      try rw [hxb]
      clear m0 m1 m2 m3 a0 a1 a2 a3 a4 a5 a6 a7 a8 a9 a10
      go_loopw [9, 11] (fun s9 s11 wr => ∃ (k : Nat) (x y r : Int), k ≤ P.length ∧ s9 = .int .i64 r ∧ s11 = .int .i64 (k : Nat) ∧ (0 ≤ r ∧ r ≤ 229376) ∧ (P = [] ∧ r = 0 ∨ (Std W H tl (whoF L) c s ix iy iw ih (tx, ty) ∧ At W H tl (whoF L) c s ix iy iw ih (tx, ty) x y r ∧ Way W H tl (whoF L) c s ix iy iw ih (tx, ty) (P.drop k) x y r)) ∧ Two wr (xb + 1) x y ∧ Below Y1.heap.size Y1 wr) (fun _ s11 _ => P.length - (intOf s11).toNat)
      case atStart => exact ⟨0, fx, fy, c1, Nat.zero_le _, rfl, rfl, Hc1.out, by simpa using Hway.out, HT2.out, HBY2.out⟩
      case round =>
        obtain ⟨k, x, y, r, hk, rfl, rfl, hr, hway, hT, hB⟩ := hrel
        clear HT2 HBY2 HY2 HY1 Hway
        obtain ⟨⟨x0, x1⟩, -, -⟩ := res_cells (HR1.out _ hB)
        by_cases hlt : k < P.length
        · obtain ⟨q, hq⟩ : ∃ q, P[k]? = some q := ⟨_, List.getElem?_eq_getElem hlt⟩
          obtain ⟨g, rfl⟩ : ∃ g, va1 = some ⟨g, 0, none⟩ := Hga.out (by rintro rfl; simp at hlt)
          obtain ⟨hstd, hat, hw⟩ : Std W H tl (whoF L) c s ix iy iw ih (tx, ty) ∧ At W H tl (whoF L) c s ix iy iw ih (tx, ty) x y r ∧ Way W H tl (whoF L) c s ix iy iw ih (tx, ty) (P.drop k) x y r := by
            rcases hway with ⟨rfl, -⟩ | h
            · simp at hlt
            · exact h
          rw [drop_cons' hq] at hw
          obtain ⟨hr0, t, hgd, -, rfl, hw2⟩ := hw
          have hat2 := hat.next hgd
          have hco := co_pos t
          have hle := hgd.2.2.1
          have hdir : dirN x y (x + dX t.val) (y + dY t.val) = ((t.val : Nat) : Int) := dirN_self t.isLt (by have := hgd.1; rw [inn, Bool.and_eq_true] at this; exact this.1)
          obtain ⟨g', o', hgg, hgl, c0, c1⟩ : ∃ g' o', some (⟨g, 0, none⟩ : Addr) = some ⟨g', o', none⟩ ∧ g' < wr.heap.size ∧ wr.cell? ⟨g', o' + k * 2, none⟩ = some (.int .i64 (x + dX t.val)) ∧ wr.cell? ⟨g', o' + k * 2 + 1, none⟩ = some (.int .i64 (y + dY t.val)) := by
            obtain ⟨a', cap', he', _, _, _, hform⟩ := HCe.out.kept hB
            obtain ⟨g', o', hgg, h0, e1, e2⟩ := hform k _ hq
            injection he' with h1 h2 h3
            exact ⟨g', o', h1.trans hgg, h0, e1, e2⟩
          injection hgg with hgg
          injection hgg with hg1 hg2
          subst hg1; subst hg2
          rw [Nat.zero_add] at c0 c1
          obtain ⟨nx, hnx⟩ : ∃ nx, x + dX t.val = nx := ⟨_, rfl⟩
          obtain ⟨ny, hny⟩ : ∃ ny, y + dY t.val = ny := ⟨_, rfl⟩
          obtain ⟨cc, hcc⟩ : ∃ cc, co ((t.val : Nat) : Int) = cc := ⟨_, rfl⟩
          rw [hnx, hny] at hat2 hw2 hdir
          rw [hnx] at c0
          rw [hny] at c1
          rw [hcc] at hat2 hw2 hco hle
          have HD : Hid (∀ wx, Calls Tryz.prog 24 #[cel x y, cel nx ny] wx fun e w' => e = .returned (.int .i64 ((t.val : Nat) : Int)) ∧ Below wx.heap.size wx w') := hide fun wx => refdir_is wx hdir
          have HK : Hid (∀ wx, Calls Tryz.prog 23 #[.int .i64 ((t.val : Nat) : Int)] wx fun e w' => e = .returned (.int .i64 cc) ∧ w' = wx) := hide fun wx => by have := refcost_any ((t.val : Nat) : Int) wx; rwa [hcc] at this
          have hwr : IntKind.i64.wrap (r - cc) = r - cc := IntWalk.i64_in _ (by omega)
          have l0 : ∀ n : Lat wr, n.w.cell? ⟨g, k * 2, none⟩ = some (.int .i64 nx) := fun n => (n.h.cell (p := ⟨g, _, none⟩) hgl).trans c0
          have l1 : ∀ n : Lat wr, n.w.cell? ⟨g, k * 2 + 1, none⟩ = some (.int .i64 ny) := fun n => (n.h.cell (p := ⟨g, _, none⟩) hgl).trans c1
          obtain ⟨f0, f1⟩ := hT.lat
          have lx : ∀ n : Lat wr, n.w.cell? ⟨xb, 1, none⟩ = some (.slice (some ⟨g, 0, none⟩) P.length vc1) := fun n => (res_cells (HR1.out _ (bt hB n.h))).1.2
          have hne := lat_some wr
          have hki : (0 : Int) ≤ (k : Nat) ∧ (k : Int) < (P.length : Nat) := by omega
          have Hat := hide (And.intro hstd (And.intro hat2 hw2))
          have Hr := hide (And.intro hr (And.intro hco hle))
          have HT := hide hT
          have HB := hide hB
          have Htt := hide (And.intro hnx (And.intro hny hcc))
          obtain ⟨tt, htt⟩ : ∃ tt : Int, ((t.val : Nat) : Int) = tt := ⟨_, rfl⟩
          rw [htt] at HD HK
          clear hway hat hgd hat2 hdir c0 c1 hw2 hstd hr hco hle hT hB hr0 hnx hny hcc htt
          go_wp2_with fail
          refine wp_region_lat (by kernel_rfl) (by kernel_rfl) ?_
          repeat (go_big_quiet_step (first | (go_at_call 24; exact calls_lat (HD.out _)) | (go_at_call 23; exact calls_lat_same (HK.out _))))
          refine wpQuiet_nil ?_
          rintro _ ⟨m, rfl⟩
          have hTm := HT.out.kept m.h
          have hBm := bt HB.out m.h
          have c0 := l0 m
          have c1 := l1 m
          have x2 := lx m
          obtain ⟨⟨t0, t1⟩, ⟨t2, t3⟩, -⟩ := id hTm
          obtain ⟨Z, hZ⟩ : ∃ Z, (m.w.setCell ⟨xb + 1, 0, none⟩ (.int .i64 nx)).setCell ⟨xb + 1, 1, none⟩ (.int .i64 ny) = Z := ⟨_, rfl⟩
          have TZ : Two Z (xb + 1) nx ny := hZ ▸ hTm.set
          have BZ : Below Y1.heap.size Y1 Z := hZ ▸ (hBm.setCell (p := ⟨xb + 1, 0, none⟩) (by rw [Hz.out]; simp) _).setCell (p := ⟨xb + 1, 1, none⟩) (by rw [Hz.out]; simp) _
          have HZ := hide hZ
          have HTZ := hide TZ
          have HBZ := hide BZ
          obtain ⟨⟨z0, z1⟩, -, -⟩ := id TZ
          obtain ⟨⟨m0, m1, m2, m3⟩, ⟨a0, a1⟩, ⟨a2, a3⟩, ⟨a4, a5⟩, ⟨a6, a7, a8, a9⟩, a10⟩ := HC.out Z (bt HP1.out BZ)
          have HFn := hide (HFi.out Z nx ny tx ty ix iy iw ih p (HW1.out.kept BZ) (bt HB0.out (bt HP1.out BZ)) Hmt.out)
          clear hTm hBm TZ BZ hZ l0 l1 f0 f1 lx HD HK HT HB
          go_wp2_with (first | rw [HZ.out] | fail)
          refine HFn.out.mono ?_
          rintro e v2 ⟨o2, va2, vn2, vc2, c2, Q, rfl, hb2, ⟨hcn2, -⟩, hs2⟩
          obtain ⟨rfl, hc2, rfl⟩ := hs2.part (by omega) Hat.out.1 Hat.out.2.1 Hat.out.2.2
          subst hc2
          have hdl : (P.drop (k + 1)).length ≤ 22938 := by rw [List.length_drop]; omega
          have hce2 := (hcn2.ceR (by omega)).1
          obtain ⟨V, hV⟩ : ∃ Y, v2.alloc (.cells #[.int .i64 1, .slice va2 vn2 vc2] 41) = Y := ⟨_, rfl⟩
          have BV : Below v2.heap.size v2 V := hV ▸ box1 _ _
          have R2 : V.heap[v2.heap.size]? = some (.cells #[.int .i64 1, .slice va2 vn2 vc2] 41) := hV ▸ heap_alloc_new v2 _
          have BZV := bt hb2 BV
          have HBV := hide (bt HBZ.out BZV)
          have HTV := hide (HTZ.out.kept BZV)
          have HCV := hide (hce2.kept BV)
          have HV := hide hV
          obtain ⟨yb, hyb⟩ : ∃ yb, v2.heap.size = yb := ⟨_, rfl⟩
          rw [hyb] at R2
          have HS : (fun wx : World => (wx.cell? ⟨yb, 0, none⟩ = some (.int .i64 1) ∧ wx.cell? ⟨yb, 1, none⟩ = some (.slice va2 vn2 vc2)) ∧ wx.cell? ⟨xb, 1, none⟩ = some (.slice (some ⟨g, 0, none⟩) P.length vc1)) V.drew := ⟨(res_cells R2).1, (res_cells (HR1.out _ HBV.out)).1.2⟩
          have HK3 : Hid (∀ wx, Below V.heap.size V wx → (fun wx : World => (wx.cell? ⟨yb, 0, none⟩ = some (.int .i64 1) ∧ wx.cell? ⟨yb, 1, none⟩ = some (.slice va2 vn2 vc2)) ∧ wx.cell? ⟨xb, 1, none⟩ = some (.slice (some ⟨g, 0, none⟩) P.length vc1)) wx) := hide fun wx q => ⟨(res_cells ((q.block _ (Array.getElem?_eq_some_iff.1 R2).1).trans R2)).1, (res_cells (HR1.out _ (bt HBV.out q))).1.2⟩
          have HCl : Hid (∀ wx, Below V.heap.size V wx → Calls Tryz.prog 25 #[.slice va2 vn2 vc2, hiC g vc1 P.length (k + 1)] wx fun e w' => e = .returned (.bool true) ∧ Below wx.heap.size wx w') := hide fun wx q => refcells_yes _ _ (P.drop (k + 1)) wx (HCV.out.kept q) (((HCe.out.kept (bt HBV.out q))).drop (by omega))
          have hcapk : P.length ≤ vc1 := by obtain ⟨a', cap', he', h1, _⟩ := HCe.out; injection he' with h1 h2 h3; omega
          have hrun := @run_hiC
          have hk1 : IntKind.i64.wrap ((k : Int) + 1) = ((k + 1 : Nat) : Int) := IntWalk.i64_in _ (by omega)
          clear m0 m1 m2 m3 a0 a1 a2 a3 a4 a5 a6 a7 a8 a9 a10 z0 z1 hb2 hcn2 hs2 hdl hce2 hV BV R2 BZV HFn x0 x1 x2 t0 t1 t2 t3 c0 c1 HZ HTZ HBZ
          go_wp2_with (first | rw [HV.out] | fail)
          try rw [hyb]
          refine wp_only ?_
          refine wp_region_z (fun wx : World => (wx.cell? ⟨yb, 0, none⟩ = some (.int .i64 1) ∧ wx.cell? ⟨yb, 1, none⟩ = some (.slice va2 vn2 vc2)) ∧ wx.cell? ⟨xb, 1, none⟩ = some (.slice (some ⟨g, 0, none⟩) P.length vc1)) [] (by kernel_rfl) ?_
          refine anyZ_take 0 18 (v := .pointer (some ⟨yb, 0, none⟩)) rfl (by kernel_rfl) (fun _ _ _ h => h.elim) (Or.inl ⟨by rfl, fun wx hx => by obtain ⟨⟨q0, q1⟩, q2⟩ := hx; clear HS; go_simp⟩) HS ?_
          try simp only [Act.put, List.getElem_toArray, List.getElem_cons_zero, List.getElem_cons_succ, List.setIfInBounds_toArray, List.set_cons_zero, List.set_cons_succ]
          refine anyZ_take 1 18 (v := .int .i64 1) rfl (by kernel_rfl) (fun _ _ _ h => h.elim) (Or.inl ⟨by rfl, fun wx hx => by obtain ⟨⟨q0, q1⟩, q2⟩ := hx; clear HS; go_simp⟩) HS ?_
          try simp only [Act.put, List.getElem_toArray, List.getElem_cons_zero, List.getElem_cons_succ, List.setIfInBounds_toArray, List.set_cons_zero, List.set_cons_succ]
          refine anyZ_take 2 18 (v := .bool false) rfl (by kernel_rfl) (fun _ _ _ h => h.elim) (Or.inl ⟨by rfl, fun wx hx => by obtain ⟨⟨q0, q1⟩, q2⟩ := hx; clear HS; go_simp⟩) HS ?_
          try simp only [Act.put, List.getElem_toArray, List.getElem_cons_zero, List.getElem_cons_succ, List.setIfInBounds_toArray, List.set_cons_zero, List.set_cons_succ]
          refine anyZ_take 3 18 (v := .bool false) rfl (by kernel_rfl) (fun _ _ _ h => h.elim) (Or.inl ⟨by rfl, fun wx hx => by obtain ⟨⟨q0, q1⟩, q2⟩ := hx; clear HS; go_simp⟩) HS ?_
          try simp only [Act.put, List.getElem_toArray, List.getElem_cons_zero, List.getElem_cons_succ, List.setIfInBounds_toArray, List.set_cons_zero, List.set_cons_succ]
          refine anyZ_take 4 18 (v := .int .i64 (r - cc)) rfl (by kernel_rfl) (fun _ _ _ h => h.elim) (Or.inl ⟨by rfl, fun wx hx => by obtain ⟨⟨q0, q1⟩, q2⟩ := hx; clear HS; go_simp⟩) HS ?_
          try simp only [Act.put, List.getElem_toArray, List.getElem_cons_zero, List.getElem_cons_succ, List.setIfInBounds_toArray, List.set_cons_zero, List.set_cons_succ]
          refine anyZ_take 5 18 (v := .int .i64 (r - cc)) rfl (by kernel_rfl) (fun _ _ _ h => h.elim) (Or.inl ⟨by rfl, fun wx hx => by obtain ⟨⟨q0, q1⟩, q2⟩ := hx; clear HS; go_simp⟩) HS ?_
          try simp only [Act.put, List.getElem_toArray, List.getElem_cons_zero, List.getElem_cons_succ, List.setIfInBounds_toArray, List.set_cons_zero, List.set_cons_succ]
          refine anyZ_take 6 18 (v := .bool false) rfl (by kernel_rfl) (fun _ _ _ h => h.elim) (Or.inl ⟨by rfl, fun wx hx => by obtain ⟨⟨q0, q1⟩, q2⟩ := hx; clear HS; go_simp⟩) HS ?_
          try simp only [Act.put, List.getElem_toArray, List.getElem_cons_zero, List.getElem_cons_succ, List.setIfInBounds_toArray, List.set_cons_zero, List.set_cons_succ]
          refine anyZ_take 7 18 (v := .bool false) rfl (by kernel_rfl) (fun _ _ _ h => h.elim) (Or.inl ⟨by rfl, fun wx hx => by obtain ⟨⟨q0, q1⟩, q2⟩ := hx; clear HS; go_simp⟩) HS ?_
          try simp only [Act.put, List.getElem_toArray, List.getElem_cons_zero, List.getElem_cons_succ, List.setIfInBounds_toArray, List.set_cons_zero, List.set_cons_succ]
          refine anyZ_take 8 18 (v := .bool false) rfl (by kernel_rfl) (fun _ _ _ h => h.elim) (Or.inl ⟨by rfl, fun wx hx => by obtain ⟨⟨q0, q1⟩, q2⟩ := hx; clear HS; go_simp⟩) HS ?_
          try simp only [Act.put, List.getElem_toArray, List.getElem_cons_zero, List.getElem_cons_succ, List.setIfInBounds_toArray, List.set_cons_zero, List.set_cons_succ]
          refine anyZ_take 9 18 (v := .pointer (some ⟨yb, 1, none⟩)) rfl (by kernel_rfl) (fun _ _ _ h => h.elim) (Or.inl ⟨by rfl, fun wx hx => by obtain ⟨⟨q0, q1⟩, q2⟩ := hx; clear HS; go_simp⟩) HS ?_
          try simp only [Act.put, List.getElem_toArray, List.getElem_cons_zero, List.getElem_cons_succ, List.setIfInBounds_toArray, List.set_cons_zero, List.set_cons_succ]
          refine anyZ_take 10 18 (v := .slice va2 vn2 vc2) rfl (by kernel_rfl) (fun _ _ _ h => h.elim) (Or.inl ⟨by rfl, fun wx hx => by obtain ⟨⟨q0, q1⟩, q2⟩ := hx; clear HS; go_simp⟩) HS ?_
          try simp only [Act.put, List.getElem_toArray, List.getElem_cons_zero, List.getElem_cons_succ, List.setIfInBounds_toArray, List.set_cons_zero, List.set_cons_succ]
          refine anyZ_take 11 18 (v := .pointer (some ⟨xb, 1, none⟩)) rfl (by kernel_rfl) (fun _ _ _ h => h.elim) (Or.inl ⟨by rfl, fun wx hx => by obtain ⟨⟨q0, q1⟩, q2⟩ := hx; clear HS; go_simp⟩) HS ?_
          try simp only [Act.put, List.getElem_toArray, List.getElem_cons_zero, List.getElem_cons_succ, List.setIfInBounds_toArray, List.set_cons_zero, List.set_cons_succ]
          refine anyZ_take 12 18 (v := .slice (some ⟨g, 0, none⟩) P.length vc1) rfl (by kernel_rfl) (fun _ _ _ h => h.elim) (Or.inl ⟨by rfl, fun wx hx => by obtain ⟨⟨q0, q1⟩, q2⟩ := hx; clear HS; go_simp⟩) HS ?_
          try simp only [Act.put, List.getElem_toArray, List.getElem_cons_zero, List.getElem_cons_succ, List.setIfInBounds_toArray, List.set_cons_zero, List.set_cons_succ]
          refine anyZ_take 13 18 (v := .int .i64 (k : Nat)) rfl (by kernel_rfl) (fun _ _ _ h => h.elim) (Or.inl ⟨by rfl, fun wx hx => by obtain ⟨⟨q0, q1⟩, q2⟩ := hx; clear HS; go_simp⟩) HS ?_
          try simp only [Act.put, List.getElem_toArray, List.getElem_cons_zero, List.getElem_cons_succ, List.setIfInBounds_toArray, List.set_cons_zero, List.set_cons_succ]
          refine anyZ_take 14 18 (v := .int .i64 ((k + 1 : Nat) : Int)) rfl (by kernel_rfl) (fun _ _ _ h => h.elim) (Or.inl ⟨by rfl, fun wx hx => by obtain ⟨⟨q0, q1⟩, q2⟩ := hx; clear HS; go_simp⟩) HS ?_
          try simp only [Act.put, List.getElem_toArray, List.getElem_cons_zero, List.getElem_cons_succ, List.setIfInBounds_toArray, List.set_cons_zero, List.set_cons_succ]
          refine anyZ_take 15 18 (v := hiC g vc1 P.length (k + 1)) rfl (by kernel_rfl) (fun _ _ _ h => h.elim) (Or.inl ⟨by rfl, fun wx hx => run_hiC (by rfl) (by rfl) (by rfl) rfl (by omega) hcapk Hcap.out⟩) HS ?_
          try simp only [Act.put, List.getElem_toArray, List.getElem_cons_zero, List.getElem_cons_succ, List.setIfInBounds_toArray, List.set_cons_zero, List.set_cons_succ]
          refine anyZ_ready (rs := [16]) (by kernel_rfl) (by simp) ?_
          refine readyZ.callG rfl rfl (run_call25c (by rfl) (by rfl) (by simp only [List.map_toArray, List.map_cons, List.map_nil]; rfl)) (HCl.out _ (Below.refl _ _).drew) ?_ readyZ.nil
          rintro e v3 ⟨rfl, hb3⟩
          have hb3' : Below V.heap.size V v3 := (Below.refl _ V).drew.trans hb3
          have HS' := HK3.out _ hb3'
          refine ⟨_, rfl, fun _ => HS', ?_⟩
          clear HS
          have HS := HS'
          clear HS'
          try simp only [Act.put, List.getElem_toArray, List.getElem_cons_zero, List.getElem_cons_succ, List.setIfInBounds_toArray, List.set_cons_zero, List.set_cons_succ]
          refine anyZ_take 17 18 (v := .bool false) rfl (by kernel_rfl) (fun _ _ _ h => h.elim) (Or.inl ⟨by rfl, fun wx hx => by obtain ⟨⟨q0, q1⟩, q2⟩ := hx; clear HS; go_simp⟩) HS ?_
          try simp only [Act.put, List.getElem_toArray, List.getElem_cons_zero, List.getElem_cons_succ, List.setIfInBounds_toArray, List.set_cons_zero, List.set_cons_succ]
          refine anyZ_take 18 18 (v := .bool false) rfl (by kernel_rfl) (fun _ _ _ h => h.elim) (Or.inl ⟨by rfl, fun wx hx => by obtain ⟨⟨q0, q1⟩, q2⟩ := hx; clear HS; go_simp⟩) HS ?_
          try simp only [Act.put, List.getElem_toArray, List.getElem_cons_zero, List.getElem_cons_succ, List.setIfInBounds_toArray, List.set_cons_zero, List.set_cons_succ]
          refine anyZ_done (by kernel_rfl) ?_ _
          dsimp only [Only, Exit.then]
          have HE : Hid (∃ (k' : Nat) (x' y' r' : Int), k' ≤ P.length ∧ (Value.int .i64 (r - cc)) = .int .i64 r' ∧ (Value.int .i64 ((k + 1 : Nat) : Int)) = .int .i64 (k' : Nat) ∧ (0 ≤ r' ∧ r' ≤ 229376) ∧ (P = [] ∧ r' = 0 ∨ (Std W H tl (whoF L) c s ix iy iw ih (tx, ty) ∧ At W H tl (whoF L) c s ix iy iw ih (tx, ty) x' y' r' ∧ Way W H tl (whoF L) c s ix iy iw ih (tx, ty) (P.drop k') x' y' r')) ∧ Two v3 (xb + 1) x' y' ∧ Below Y1.heap.size Y1 v3) := hide ⟨k + 1, nx, ny, r - cc, by omega, rfl, rfl, by have := Hr.out; omega, .inr Hat.out, HTV.out.kept hb3', bt HBV.out hb3'⟩
          clear HS hb3 hb3' HK3 HCl HCV
          go_wp2_with fail
          go_roundw
          case rel => exact HE.out
          case measure => simp [intOf]; omega
        · obtain rfl : k = P.length := by omega
          have hr0 : r = 0 := by
            rcases hway with ⟨-, h⟩ | ⟨-, -, h⟩
            · exact h
            · rw [List.drop_length] at h; exact h
          subst hr0
          have hki : ¬ ((P.length : Nat) : Int) < (P.length : Nat) := by omega
          have HBe := hide (bt HP1.out hB)
          clear hway hT hB
          go_wp2_with fail
          refine (HAw.out _ (bt HB0.out HBe.out)).mono ?_
          rintro e w9 ⟨rfl, hb9⟩
          have HE := hide (bt (bt HB0.out HBe.out) hb9)
          clear hb9
          go_wp2_with fail
          go_ret
          exact ⟨rfl, HE.out⟩
  · have HBo := hide (both_no W H _ _ tl L X (hv.kept B0) hb (hl.kept B0) hc)
    clear hX B0 M0 A0 hv hl hb hg ho hc
    go_enter Tryz.func6, Tryz.ntmps6
    go_wp2_with (first | rw [HX.out] | fail)
    refine HBo.out.mono ?_
    rintro e w1 ⟨rfl, hb1⟩
    have HB1 := hide hb1
    clear m0 m1 m2 m3 a0 a1 a2 a3 a4 a5 a6 a7 a8 a9 a10 HBo hb1
    go_wp2_with fail
    refine (HAw.out _ (bt HB0.out HB1.out)).mono ?_
    rintro e w9 ⟨rfl, hb9⟩
    have HE := hide (bt (bt HB0.out HB1.out) hb9)
    clear hb9
    go_wp2_with fail
    go_ret
    exact ⟨rfl, HE.out⟩
end Go.Proofs.YtggaobcdogbjhaaGreatDoor
