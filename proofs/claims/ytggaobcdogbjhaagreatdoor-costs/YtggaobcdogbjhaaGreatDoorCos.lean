/-
  RouteCosts walked.
-/
import Derived.Test.YtggaobcdogbjhaaGreatDoorWkAll
import Derived.Test.YtggaobcdogbjhaaGreatDoorBoth
import Derived.Test.YtggaobcdogbjhaaGreatDoorCoAll
namespace Go.Proofs.YtggaobcdogbjhaaGreatDoor
open Go.RowKit Go.Shelf
set_option linter.unusedVariables false
set_option linter.unusedSimpArgs false
attribute [local go_sem] Oper.semAt_some
theorem run_callR10 {ev : Operand → Value} {o : Oper} {w : World} {ar : Array Operand} {ts : Array TypeId} {vs : Array Value} (hop : o.op = .call { callee := .value (.func 10), args := ar, argTypes := ts }) (hf : ev (.func 10) = .func (.func 10) #[] #[]) (hvs : ar.map ev = vs) : (execOp ev o).run Tryz.prog w = .ok (.enter 10 vs) w := by
  unfold execOp
  simp only [hop, resolve, hf, hvs]
  go_simp
theorem run_callR19 {ev : Operand → Value} {o : Oper} {w : World} {ar : Array Operand} {ts : Array TypeId} {vs : Array Value} (hop : o.op = .call { callee := .value (.func 19), args := ar, argTypes := ts }) (hf : ev (.func 19) = .func (.func 19) #[] #[]) (hvs : ar.map ev = vs) : (execOp ev o).run Tryz.prog w = .ok (.enter 19 vs) w := by
  unfold execOp
  simp only [hop, resolve, hf, hvs]
  go_simp
set_option maxRecDepth 100000 in
set_option maxHeartbeats 4000000 in
theorem rcosts_is (W H : Int) (tv bv : Value) (tl : List Nat) (L : List Bd) (c s fx fy tx ty ax ay aw ah bu : Int) (w : World) (hv : TlR w tv tl) (hb : ∀ x ∈ tl, x < 256) (hl : BdR w bv L) (hg : Grnd w) (ho : Offs w) :
    Calls Tryz.prog 4 #[mp W H tv bv, .agg #[.int .i64 c, .int .i64 s, .int .i64 fx, .int .i64 fy, .int .i64 tx, .int .i64 ty, .int .i64 ax, .int .i64 ay, .int .i64 aw, .int .i64 ah, .int .i64 bu]] w fun e w' => e = .returned (.bool true) ∧ Below w.heap.size w w' := by
  obtain ⟨X, hX⟩ : ∃ X, (w.alloc (.cells #[.int .i64 W, .int .i64 H, tv, bv] 25)).alloc (.cells #[.int .i64 c, .int .i64 s, .int .i64 fx, .int .i64 fy, .int .i64 tx, .int .i64 ty, .int .i64 ax, .int .i64 ay, .int .i64 aw, .int .i64 ah, .int .i64 bu] 33) = X := ⟨_, rfl⟩
  have B0 : Below w.heap.size w X := hX ▸ box2 _ _ _
  have M0 : MB X w.heap.size W H tv bv := by rw [← hX]; exact (MB.new w W H tv bv).kept (box1 _ _)
  have A0 : X.heap[w.heap.size + 1]? = some (.cells #[.int .i64 c, .int .i64 s, .int .i64 fx, .int .i64 fy, .int .i64 tx, .int .i64 ty, .int .i64 ax, .int .i64 ay, .int .i64 aw, .int .i64 ah, .int .i64 bu] 33) := by
    rw [← hX]
    have := heap_alloc_new (w.alloc (.cells #[.int .i64 W, .int .i64 H, tv, bv] 25)) (.cells #[.int .i64 c, .int .i64 s, .int .i64 fx, .int .i64 fy, .int .i64 tx, .int .i64 ty, .int .i64 ax, .int .i64 ay, .int .i64 aw, .int .i64 ah, .int .i64 bu] 33)
    simpa using this
  have HC : Hid (∀ wx, Below X.heap.size X wx → (wx.cell? ⟨w.heap.size, 0, none⟩ = some (.int .i64 W) ∧ wx.cell? ⟨w.heap.size, 1, none⟩ = some (.int .i64 H) ∧ wx.cell? ⟨w.heap.size, 2, none⟩ = some tv ∧ wx.cell? ⟨w.heap.size, 3, none⟩ = some bv) ∧
      (wx.cell? ⟨w.heap.size + 1, 0, none⟩ = some (.int .i64 c) ∧ wx.cell? ⟨w.heap.size + 1, 1, none⟩ = some (.int .i64 s)) ∧ (wx.cell? ⟨w.heap.size + 1, 2, none⟩ = some (.int .i64 fx) ∧ wx.cell? ⟨w.heap.size + 1, 3, none⟩ = some (.int .i64 fy)) ∧ (wx.cell? ⟨w.heap.size + 1, 4, none⟩ = some (.int .i64 tx) ∧ wx.cell? ⟨w.heap.size + 1, 5, none⟩ = some (.int .i64 ty)) ∧
      (wx.cell? ⟨w.heap.size + 1, 6, none⟩ = some (.int .i64 ax) ∧ wx.cell? ⟨w.heap.size + 1, 7, none⟩ = some (.int .i64 ay) ∧ wx.cell? ⟨w.heap.size + 1, 8, none⟩ = some (.int .i64 aw) ∧ wx.cell? ⟨w.heap.size + 1, 9, none⟩ = some (.int .i64 ah)) ∧ wx.cell? ⟨w.heap.size + 1, 10, none⟩ = some (.int .i64 bu)) := hide fun wx q => by
    have A := (q.block _ (Array.getElem?_eq_some_iff.1 A0).1).trans A0
    refine ⟨(M0.kept q).c, ⟨?_, ?_⟩, ⟨?_, ?_⟩, ⟨?_, ?_⟩, ⟨?_, ?_, ?_, ?_⟩, ?_⟩ <;> (rw [cell_of_row _ _ _ _ _ _ A]; rfl)
  have HAw : Hid (∀ wx, Below w.heap.size w wx → Calls Tryz.prog 8 #[] wx fun e w' => e = .returned (.bool true) ∧ Below wx.heap.size wx w') := hide fun wx q => awake_is wx (hg.kept q) (ho.kept q)
  have HB0 := hide B0
  have HX := hide hX
  obtain ⟨⟨m0, m1, m2, m3⟩, ⟨a0, a1⟩, ⟨a2, a3⟩, ⟨a4, a5⟩, ⟨a6, a7, a8, a9⟩, a10⟩ := HC.out X (Below.refl _ _)
  have hvf := hv
  have hlf := hl
  obtain ⟨sa1, cap1, rfl, -⟩ := hvf
  obtain ⟨sa2, cap2, rfl, -⟩ := hlf
  rcases chkC_two W H tl L with hc | hc
  · obtain ⟨hmt, -⟩ := chkC_zero hc
    obtain ⟨⟨hW0, hW⟩, hH0, hH⟩ := mt_small hmt
    have hWH : 0 ≤ W * H ∧ W * H ≤ 128 * 128 := ⟨Int.mul_nonneg hW0 hH0, Int.mul_le_mul hW hH hH0 (by omega)⟩
    have hwm : IntKind.i64.wrap (W * H) = W * H := IntWalk.i64_in _ (by omega)
    have HBo := hide (both_ok W H _ _ tl L X (hv.kept B0) hb (hl.kept B0) hc)
    have Hgo := hide (And.intro hg (And.intro ho (And.intro hW hH)))
    have HNo : Hid (∀ (w1 : World) (pp : Nat), Wl w1 pp W H tl (whoF L) → (wi ax ay aw ah 0 0 W H && has ax ay aw ah fx fy) = false → Calls Tryz.prog 15 #[ptr pp, shv c s, cel fx fy, rct ax ay aw ah] w1 fun e w' => e = .returned (.tuple #[.slice none 0 0, .int .i64 1]) ∧ Below w1.heap.size w1 w') := hide fun w1 pp q1 q2 => pcosts_no pp W H tl (whoF L) c s fx fy ax ay aw ah w1 q1 q2
    have HYe : Hid (∀ (w1 : World) (pp : Nat), Wl w1 pp W H tl (whoF L) → Below w.heap.size w w1 → wi ax ay aw ah 0 0 W H = true → has ax ay aw ah fx fy = true → Calls Tryz.prog 15 #[ptr pp, shv c s, cel fx fy, rct ax ay aw ah] w1 (CostsEnd W H tl (whoF L) c s ax ay aw ah fx fy w1)) := hide fun w1 pp q1 q2 q3 q4 => pcosts_yes pp W H tl (whoF L) c s fx fy ax ay aw ah w1 q1 (hg.kept q2) (ho.kept q2) hW hH q3 q4
    have HOf : Hid (∀ (w1 : World) (r : Nat), Rl w1 r W H tl L → Calls Tryz.prog 10 #[ptr r, shv c s] w1 fun e w' => ∃ a n cap, e = .returned (.agg #[.int .i64 W, .int .i64 H, .slice a n cap]) ∧ Grd w' W H tl (whoF L) c s (.slice a n cap) ∧ Below w1.heap.size w1 w') := hide fun w1 r q => of_is c s q hc
    have HDc : Hid (∀ (w1 : World) (a : Option Addr) (n cap : Nat), W * H ≤ 700 → Grd w1 W H tl (whoF L) c s (.slice a n cap) → wi ax ay aw ah 0 0 W H = true → has ax ay aw ah fx fy = true → Calls Tryz.prog 19 #[.agg #[.int .i64 W, .int .i64 H, .slice a n cap], cel fx fy, rct ax ay aw ah] w1 (DEnd W H tl (whoF L) c s ax ay aw ah fx fy w1)) := hide fun w1 a n cap q0 q1 q2 q3 => dcosts_is q1 (by omega) (wi_rect hW hH q2) (by have h1 := wi_rect hW hH q2; have h2 := (has_iff _ _ _ _ _ _).1 q3; unfold inB; simp only; omega)
    have Hcut : Hid (∀ C D, Tbl W H tl (whoF L) c s ax ay aw ah (fx, fy) C → Tbl W H tl (whoF L) c s ax ay aw ah (fx, fy) D → wi ax ay aw ah 0 0 W H = true → C = D ∧ 0 < C.length ∧ C.length ≤ 16384) := hide fun C D h1 h2 q => by
      have hq := wi_rect hW hH q
      have ha := area_le (ix := ax) (iy := ay) (iw := aw) (ih := ah) ⟨hq.1, hq.2.1, hq.2.2.1, hq.2.2.2.1⟩ hq.2.2.2.2.1 hq.2.2.2.2.2 hW hH
      have hcm : ah * aw = aw * ah := Int.mul_comm _ _
      have := h1.1
      exact ⟨h1.eq hq.2.2.2.2.1 h2, by omega, by omega⟩
    clear hX B0 M0 A0 hv hl hb hg ho hc hmt hW0 hH0 hW hH
    go_enter Tryz.func4, Tryz.ntmps4
    go_wp2_with (first | rw [HX.out] | fail)
    refine HBo.out.mono ?_
    rintro e w1 ⟨p, r, rfl, hWn, hRl, hb1⟩
    have HW0 := hide hWn.1
    have HR0 := hide hRl
    have HP0 := hide hb1
    clear m0 m1 m2 m3 a0 a1 a2 a3 a4 a5 a6 a7 a8 a9 a10 HBo hWn hRl hb1
    obtain ⟨⟨m0, m1, m2, m3⟩, ⟨a0, a1⟩, ⟨a2, a3⟩, ⟨a4, a5⟩, ⟨a6, a7, a8, a9⟩, a10⟩ := HC.out w1 HP0.out
    by_cases hA : 700 < W * H
    · go_wp2_with fail
      refine (HAw.out _ (bt HB0.out HP0.out)).mono ?_
      rintro e w9 ⟨rfl, hb9⟩
      have HE := hide (bt (bt HB0.out HP0.out) hb9)
      clear hb9
      go_wp2_with fail
      go_ret
      exact ⟨rfl, HE.out⟩
    · by_cases hwi : wi ax ay aw ah 0 0 W H = true
      · by_cases hha : has ax ay aw ah fx fy = true
        · have Hwi := hide hwi
          have Hha := hide hha
          have hA7 : W * H ≤ 700 := by omega
          have HA7 := hide hA7
          clear hwi hha
          go_wp2_with fail
          refine (HYe.out _ p HW0.out (bt HB0.out HP0.out) Hwi.out Hha.out).mono ?_
          rintro e W1 ⟨va, vn, vc, C, rfl, hb1, ⟨hct, -⟩, htb⟩
          have HP1 := hide (bt HP0.out hb1)
          have HR1 := hide (HR0.out.kept hb1)
          have HCt := hide hct
          have Htb := hide htb
          clear m0 m1 m2 m3 a0 a1 a2 a3 a4 a5 a6 a7 a8 a9 a10 hb1 hct htb hA7
          have lats := fun n : Lat W1 => HC.out n.w (bt HP1.out n.h)
          have k2 : ∀ n : Lat W1, n.w.cell? ⟨w.heap.size + 1, 2, none⟩ = some (.int .i64 fx) := fun n => (lats n).2.2.1.1
          have k3 : ∀ n : Lat W1, n.w.cell? ⟨w.heap.size + 1, 3, none⟩ = some (.int .i64 fy) := fun n => (lats n).2.2.1.2
          have k6 : ∀ n : Lat W1, n.w.cell? ⟨w.heap.size + 1, 6, none⟩ = some (.int .i64 ax) := fun n => (lats n).2.2.2.2.1.1
          have k7 : ∀ n : Lat W1, n.w.cell? ⟨w.heap.size + 1, 7, none⟩ = some (.int .i64 ay) := fun n => (lats n).2.2.2.2.1.2.1
          have k8 : ∀ n : Lat W1, n.w.cell? ⟨w.heap.size + 1, 8, none⟩ = some (.int .i64 aw) := fun n => (lats n).2.2.2.2.1.2.2.1
          have k9 : ∀ n : Lat W1, n.w.cell? ⟨w.heap.size + 1, 9, none⟩ = some (.int .i64 ah) := fun n => (lats n).2.2.2.2.1.2.2.2
          have hne := lat_some W1
          have HRa : Hid (∀ n : Lat W1, Calls Tryz.prog 17 #[ptr r] n.w fun e w' => e = .returned (rct 0 0 W H) ∧ Below n.w.heap.size n.w w') := hide fun n => refall_is (HR1.out.kept n.h)
          clear lats
          go_wp2_with fail
          refine wp_region_lat (by kernel_rfl) (by kernel_rfl) ?_
          repeat (go_big_quiet_step (first | (go_at_call 17; exact calls_lat (HRa.out _)) | (go_at_call 16; exact calls_lat (refwithin_is _ Hwi.out)) | (go_at_call 18; exact calls_lat (refhas_is _ Hha.out))))
          refine wpQuiet_nil ?_
          rintro _ ⟨m, rfl⟩
          have Hm := hide (bt HP1.out m.h)
          have HRm := hide (HR1.out.kept m.h)
          have HCm := hide (HCt.out.upto m.h)
          obtain ⟨wm, hwm2⟩ : ∃ wm, m.w = wm := ⟨_, rfl⟩
          rw [hwm2] at Hm HRm HCm
          rw [hwm2]
          have HKc : Hid (∀ wx, Below wm.heap.size wm wx → (fun wx : World => (wx.cell? ⟨w.heap.size + 1, 0, none⟩ = some (.int .i64 c) ∧ wx.cell? ⟨w.heap.size + 1, 1, none⟩ = some (.int .i64 s)) ∧ (wx.cell? ⟨w.heap.size + 1, 2, none⟩ = some (.int .i64 fx) ∧ wx.cell? ⟨w.heap.size + 1, 3, none⟩ = some (.int .i64 fy)) ∧ (wx.cell? ⟨w.heap.size + 1, 6, none⟩ = some (.int .i64 ax) ∧ wx.cell? ⟨w.heap.size + 1, 7, none⟩ = some (.int .i64 ay) ∧ wx.cell? ⟨w.heap.size + 1, 8, none⟩ = some (.int .i64 aw) ∧ wx.cell? ⟨w.heap.size + 1, 9, none⟩ = some (.int .i64 ah))) wx) := hide fun wx q => by
            obtain ⟨-, e1, e2, -, e3, -⟩ := HC.out wx (bt Hm.out q)
            exact ⟨e1, e2, e3⟩
          have HS : (fun wx : World => (wx.cell? ⟨w.heap.size + 1, 0, none⟩ = some (.int .i64 c) ∧ wx.cell? ⟨w.heap.size + 1, 1, none⟩ = some (.int .i64 s)) ∧ (wx.cell? ⟨w.heap.size + 1, 2, none⟩ = some (.int .i64 fx) ∧ wx.cell? ⟨w.heap.size + 1, 3, none⟩ = some (.int .i64 fy)) ∧ (wx.cell? ⟨w.heap.size + 1, 6, none⟩ = some (.int .i64 ax) ∧ wx.cell? ⟨w.heap.size + 1, 7, none⟩ = some (.int .i64 ay) ∧ wx.cell? ⟨w.heap.size + 1, 8, none⟩ = some (.int .i64 aw) ∧ wx.cell? ⟨w.heap.size + 1, 9, none⟩ = some (.int .i64 ah))) wm.drew := HKc.out _ (Below.refl _ _).drew
          have HO1 := hide (HOf.out wm.drew r (HRm.out.kept (Below.refl _ _).drew))
          clear k2 k3 k6 k7 k8 k9 hne HRa hwm2 HCt HR1 HP1 HR0
          go_wp2_with fail
          refine wp_only ?_
          refine wp_region_z (fun wx : World => (wx.cell? ⟨w.heap.size + 1, 0, none⟩ = some (.int .i64 c) ∧ wx.cell? ⟨w.heap.size + 1, 1, none⟩ = some (.int .i64 s)) ∧ (wx.cell? ⟨w.heap.size + 1, 2, none⟩ = some (.int .i64 fx) ∧ wx.cell? ⟨w.heap.size + 1, 3, none⟩ = some (.int .i64 fy)) ∧ (wx.cell? ⟨w.heap.size + 1, 6, none⟩ = some (.int .i64 ax) ∧ wx.cell? ⟨w.heap.size + 1, 7, none⟩ = some (.int .i64 ay) ∧ wx.cell? ⟨w.heap.size + 1, 8, none⟩ = some (.int .i64 aw) ∧ wx.cell? ⟨w.heap.size + 1, 9, none⟩ = some (.int .i64 ah))) [] (by kernel_rfl) ?_
          refine anyZ_take 0 9 (v := ptr r) rfl (by kernel_rfl) (fun _ _ _ h => h.elim) (Or.inl ⟨by rfl, fun wx hx => by obtain ⟨⟨q0, q1⟩, ⟨q2, q3⟩, q4, q5, q6, q7⟩ := hx; clear HS; go_simp⟩) HS ?_
          try simp only [Act.put, List.getElem_toArray, List.getElem_cons_zero, List.getElem_cons_succ, List.setIfInBounds_toArray, List.set_cons_zero, List.set_cons_succ]
          refine anyZ_take 1 9 (v := .pointer (some ⟨w.heap.size + 1, 0, none⟩)) rfl (by kernel_rfl) (fun _ _ _ h => h.elim) (Or.inl ⟨by rfl, fun wx hx => by obtain ⟨⟨q0, q1⟩, ⟨q2, q3⟩, q4, q5, q6, q7⟩ := hx; clear HS; go_simp⟩) HS ?_
          try simp only [Act.put, List.getElem_toArray, List.getElem_cons_zero, List.getElem_cons_succ, List.setIfInBounds_toArray, List.set_cons_zero, List.set_cons_succ]
          refine anyZ_take 2 9 (v := shv c s) rfl (by kernel_rfl) (fun _ _ _ h => h.elim) (Or.inl ⟨by rfl, fun wx hx => by obtain ⟨⟨q0, q1⟩, ⟨q2, q3⟩, q4, q5, q6, q7⟩ := hx; clear HS; go_simp⟩) HS ?_
          try simp only [Act.put, List.getElem_toArray, List.getElem_cons_zero, List.getElem_cons_succ, List.setIfInBounds_toArray, List.set_cons_zero, List.set_cons_succ]
          refine anyZ_take 4 9 (v := .pointer (some ⟨w.heap.size + 1, 2, none⟩)) rfl (by kernel_rfl) (fun _ _ _ h => h.elim) (Or.inl ⟨by rfl, fun wx hx => by obtain ⟨⟨q0, q1⟩, ⟨q2, q3⟩, q4, q5, q6, q7⟩ := hx; clear HS; go_simp⟩) HS ?_
          try simp only [Act.put, List.getElem_toArray, List.getElem_cons_zero, List.getElem_cons_succ, List.setIfInBounds_toArray, List.set_cons_zero, List.set_cons_succ]
          refine anyZ_take 5 9 (v := cel fx fy) rfl (by kernel_rfl) (fun _ _ _ h => h.elim) (Or.inl ⟨by rfl, fun wx hx => by obtain ⟨⟨q0, q1⟩, ⟨q2, q3⟩, q4, q5, q6, q7⟩ := hx; clear HS; go_simp⟩) HS ?_
          try simp only [Act.put, List.getElem_toArray, List.getElem_cons_zero, List.getElem_cons_succ, List.setIfInBounds_toArray, List.set_cons_zero, List.set_cons_succ]
          refine anyZ_take 6 9 (v := .pointer (some ⟨w.heap.size + 1, 6, none⟩)) rfl (by kernel_rfl) (fun _ _ _ h => h.elim) (Or.inl ⟨by rfl, fun wx hx => by obtain ⟨⟨q0, q1⟩, ⟨q2, q3⟩, q4, q5, q6, q7⟩ := hx; clear HS; go_simp⟩) HS ?_
          try simp only [Act.put, List.getElem_toArray, List.getElem_cons_zero, List.getElem_cons_succ, List.setIfInBounds_toArray, List.set_cons_zero, List.set_cons_succ]
          refine anyZ_take 7 9 (v := rct ax ay aw ah) rfl (by kernel_rfl) (fun _ _ _ h => h.elim) (Or.inl ⟨by rfl, fun wx hx => by obtain ⟨⟨q0, q1⟩, ⟨q2, q3⟩, q4, q5, q6, q7⟩ := hx; clear HS; go_simp⟩) HS ?_
          try simp only [Act.put, List.getElem_toArray, List.getElem_cons_zero, List.getElem_cons_succ, List.setIfInBounds_toArray, List.set_cons_zero, List.set_cons_succ]
          refine anyZ_ready (rs := [3]) (by kernel_rfl) (by simp) ?_
          refine readyZ.call rfl rfl (run_callR10 (by rfl) (by rfl) (by simp only [List.map_toArray, List.map_cons, List.map_nil]; rfl)) HO1.out ?_ readyZ.nil
          rintro e w3 ⟨ga, gn, gc, rfl, hgr, hb3⟩
          have hb3' : Below wm.heap.size wm w3 := (Below.refl _ wm).drew.trans hb3
          have HS' := HKc.out _ hb3'
          refine ⟨_, rfl, fun _ => HS', ?_⟩
          clear HS
          have HS := HS'
          clear HS'
          try simp only [Act.put, List.getElem_toArray, List.getElem_cons_zero, List.getElem_cons_succ, List.setIfInBounds_toArray, List.set_cons_zero, List.set_cons_succ]
          have HD1 := hide (HDc.out w3 ga gn gc HA7.out hgr Hwi.out Hha.out)
          refine anyZ_ready (rs := [8]) (by kernel_rfl) (by simp) ?_
          refine readyZ.call rfl rfl (run_callR19 (by rfl) (by rfl) (by simp only [List.map_toArray, List.map_cons, List.map_nil]; rfl)) HD1.out ?_ readyZ.nil
          rintro e w4 ⟨kb, kn, K, rfl, hb4, ⟨hck, -⟩, htk⟩
          have hb4' := bt hb3' hb4
          have HS' := HKc.out _ hb4'
          refine ⟨_, rfl, fun _ => HS', ?_⟩
          clear HS
          have HS := HS'
          clear HS'
          try simp only [Act.put, List.getElem_toArray, List.getElem_cons_zero, List.getElem_cons_succ, List.setIfInBounds_toArray, List.set_cons_zero, List.set_cons_succ]
          refine anyZ_take 9 9 (v := .slice (some ⟨kb, 0, none⟩) kn kn) rfl (by kernel_rfl) (fun _ _ _ h => h.elim) (Or.inl ⟨by rfl, fun wx hx => by clear HS; go_simp⟩) HS ?_
          try simp only [Act.put, List.getElem_toArray, List.getElem_cons_zero, List.getElem_cons_succ, List.setIfInBounds_toArray, List.set_cons_zero, List.set_cons_succ]
          refine anyZ_done (by kernel_rfl) ?_ _
          dsimp only [Only, Exit.then]
          obtain ⟨rfl, hl0, hl1⟩ := Hcut.out C K Htb.out htk Hwi.out
          have hcm4 := HCm.out.upto hb4'
          obtain ⟨g, cap, hcv, -⟩ := hcm4.form hl0
          obtain ⟨g2, cap2, hck2, -⟩ := hck.form hl0
          injection hcv with e1 e2 e3
          injection hck2 with e4 e5 e6
          injection e4 with e4
          subst e1; subst e2; subst e3; subst e5
          have HBw := hide (bt HP0.out (bt (show Below w1.heap.size w1 w1 from Below.refl _ _) (Below.refl _ _)))
          have H4 := hide (And.intro hcm4 (And.intro hck (bt Hm.out hb4')))
          clear HS hb3 hb3' hb4 hb4' hgr hck htk HD1 HO1 hcm4 HKc HCm HRm Htb e4 e6
          have hlI : (0 : Int) < (C.length : Nat) ∧ ((C.length : Nat) : Int) ≤ 16384 := by omega
          go_wp2_with fail
          go_loopw [11] (fun s11 wr => ∃ i : Nat, s11 = .int .i64 (i : Nat) ∧ i ≤ C.length ∧ Below w4.heap.size w4 wr) (fun s11 _ => C.length - (intOf s11).toNat)
          case atStart => exact ⟨0, rfl, Nat.zero_le _, Below.refl _ _⟩
          case round =>
            obtain ⟨i, rfl, hi, hB⟩ := hrel
            by_cases hlt : i < C.length
            · obtain ⟨q, hq⟩ : ∃ q, C[i]? = some q := ⟨_, List.getElem?_eq_getElem hlt⟩
              have l0 : ∀ n : Lat wr, n.w.cell? ⟨g, i, none⟩ = some (.int .i64 q) := fun n => (Cts.got (H4.out.1.upto (bt hB n.h)) hq).1
              have l1 : ∀ n : Lat wr, n.w.cell? ⟨kb, i, none⟩ = some (.int .i64 q) := fun n => (Cts.got (H4.out.2.1.upto (bt hB n.h)) hq).1
              have hne := lat_some wr
              have hiI : (0 : Int) ≤ (i : Nat) ∧ ((i : Nat) : Int) < (C.length : Nat) := by omega
              have HB := hide hB
              clear hB
              go_wp2_with fail
              refine wp_region_lat (by kernel_rfl) (by kernel_rfl) ?_
              repeat (go_big_quiet_step (fail))
              refine wpQuiet_nil ?_
              rintro _ ⟨m, rfl⟩
              have HB2 := hide (bt HB.out m.h)
              clear l0 l1 hne
              go_wp2_with fail
              go_roundw
              case rel => exact ⟨i + 1, by go_num, by omega, HB2.out⟩
              case measure => simp [intOf]; omega
            · have hie : C.length = i := by omega
              have hiI : ¬ ((i : Nat) : Int) < (C.length : Nat) := by omega
              have HB := hide (bt H4.out.2.2 hB)
              clear hB hie
              go_wp2_with fail
              refine (HAw.out _ (bt HB0.out HB.out)).mono ?_
              rintro e w9 ⟨rfl, hb9⟩
              have HE := hide (bt (bt HB0.out HB.out) hb9)
              clear hb9
              go_wp2_with fail
              go_ret
              exact ⟨rfl, HE.out⟩
        · have hfal : (wi ax ay aw ah 0 0 W H && has ax ay aw ah fx fy) = false := by rw [hwi]; simpa using hha
          have Hfal := hide hfal
          have Hwi := hide hwi
          have Hha : Hid (has ax ay aw ah fx fy = false) := hide (by simpa using hha)
          clear hfal hwi hha
          go_wp2_with fail
          refine (HNo.out _ p HW0.out Hfal.out).mono ?_
          rintro e W1 ⟨rfl, hb1⟩
          have HP1 := hide (bt HP0.out hb1)
          have HR1 := hide (HR0.out.kept hb1)
          clear m0 m1 m2 m3 a0 a1 a2 a3 a4 a5 a6 a7 a8 a9 a10 hb1
          have lats := fun n : Lat W1 => HC.out n.w (bt HP1.out n.h)
          have k2 : ∀ n : Lat W1, n.w.cell? ⟨w.heap.size + 1, 2, none⟩ = some (.int .i64 fx) := fun n => (lats n).2.2.1.1
          have k3 : ∀ n : Lat W1, n.w.cell? ⟨w.heap.size + 1, 3, none⟩ = some (.int .i64 fy) := fun n => (lats n).2.2.1.2
          have k6 : ∀ n : Lat W1, n.w.cell? ⟨w.heap.size + 1, 6, none⟩ = some (.int .i64 ax) := fun n => (lats n).2.2.2.2.1.1
          have k7 : ∀ n : Lat W1, n.w.cell? ⟨w.heap.size + 1, 7, none⟩ = some (.int .i64 ay) := fun n => (lats n).2.2.2.2.1.2.1
          have k8 : ∀ n : Lat W1, n.w.cell? ⟨w.heap.size + 1, 8, none⟩ = some (.int .i64 aw) := fun n => (lats n).2.2.2.2.1.2.2.1
          have k9 : ∀ n : Lat W1, n.w.cell? ⟨w.heap.size + 1, 9, none⟩ = some (.int .i64 ah) := fun n => (lats n).2.2.2.2.1.2.2.2
          have hne := lat_some W1
          have HRa : Hid (∀ n : Lat W1, Calls Tryz.prog 17 #[ptr r] n.w fun e w' => e = .returned (rct 0 0 W H) ∧ Below n.w.heap.size n.w w') := hide fun n => refall_is (HR1.out.kept n.h)
          clear lats
          go_wp2_with fail
          refine wp_region_lat (by kernel_rfl) (by kernel_rfl) ?_
          repeat (go_big_quiet_step (first | (go_at_call 17; exact calls_lat (HRa.out _)) | (go_at_call 16; exact calls_lat (refwithin_is _ Hwi.out)) | (go_at_call 18; exact calls_lat (refhas_is _ Hha.out))))
          refine wpQuiet_nil ?_
          rintro _ ⟨m, rfl⟩
          have Hm := hide (bt HP1.out m.h)
          have HRm := hide (HR1.out.kept m.h)
          clear k2 k3 k6 k7 k8 k9 hne HRa
          go_wp2_with fail
          refine (HAw.out _ (bt HB0.out Hm.out)).mono ?_
          rintro e w9 ⟨rfl, hb9⟩
          have HE := hide (bt (bt HB0.out Hm.out) hb9)
          clear hb9
          go_wp2_with fail
          go_ret
          exact ⟨rfl, HE.out⟩
      · have hwf : wi ax ay aw ah 0 0 W H = false := by simpa using hwi
        have hfal : (wi ax ay aw ah 0 0 W H && has ax ay aw ah fx fy) = false := by rw [hwf]; rfl
        have Hfal := hide hfal
        have Hwi := hide hwf
        clear hfal hwi hwf
        go_wp2_with fail
        refine (HNo.out _ p HW0.out Hfal.out).mono ?_
        rintro e W1 ⟨rfl, hb1⟩
        have HP1 := hide (bt HP0.out hb1)
        have HR1 := hide (HR0.out.kept hb1)
        clear m0 m1 m2 m3 a0 a1 a2 a3 a4 a5 a6 a7 a8 a9 a10 hb1
        have lats := fun n : Lat W1 => HC.out n.w (bt HP1.out n.h)
        have k2 : ∀ n : Lat W1, n.w.cell? ⟨w.heap.size + 1, 2, none⟩ = some (.int .i64 fx) := fun n => (lats n).2.2.1.1
        have k3 : ∀ n : Lat W1, n.w.cell? ⟨w.heap.size + 1, 3, none⟩ = some (.int .i64 fy) := fun n => (lats n).2.2.1.2
        have k6 : ∀ n : Lat W1, n.w.cell? ⟨w.heap.size + 1, 6, none⟩ = some (.int .i64 ax) := fun n => (lats n).2.2.2.2.1.1
        have k7 : ∀ n : Lat W1, n.w.cell? ⟨w.heap.size + 1, 7, none⟩ = some (.int .i64 ay) := fun n => (lats n).2.2.2.2.1.2.1
        have k8 : ∀ n : Lat W1, n.w.cell? ⟨w.heap.size + 1, 8, none⟩ = some (.int .i64 aw) := fun n => (lats n).2.2.2.2.1.2.2.1
        have k9 : ∀ n : Lat W1, n.w.cell? ⟨w.heap.size + 1, 9, none⟩ = some (.int .i64 ah) := fun n => (lats n).2.2.2.2.1.2.2.2
        have hne := lat_some W1
        have HRa : Hid (∀ n : Lat W1, Calls Tryz.prog 17 #[ptr r] n.w fun e w' => e = .returned (rct 0 0 W H) ∧ Below n.w.heap.size n.w w') := hide fun n => refall_is (HR1.out.kept n.h)
        clear lats
        go_wp2_with fail
        refine wp_region_lat (by kernel_rfl) (by kernel_rfl) ?_
        repeat (go_big_quiet_step (first | (go_at_call 17; exact calls_lat (HRa.out _)) | (go_at_call 16; exact calls_lat (refwithin_is _ Hwi.out))))
        refine wpQuiet_nil ?_
        rintro _ ⟨m, rfl⟩
        have Hm := hide (bt HP1.out m.h)
        have HRm := hide (HR1.out.kept m.h)
        clear k2 k3 k6 k7 k8 k9 hne HRa
        go_wp2_with fail
        refine (HAw.out _ (bt HB0.out Hm.out)).mono ?_
        rintro e w9 ⟨rfl, hb9⟩
        have HE := hide (bt (bt HB0.out Hm.out) hb9)
        clear hb9
        go_wp2_with fail
        go_ret
        exact ⟨rfl, HE.out⟩
  · have HBo := hide (both_no W H _ _ tl L X (hv.kept B0) hb (hl.kept B0) hc)
    clear hX B0 M0 A0 hv hl hb hg ho hc
    go_enter Tryz.func4, Tryz.ntmps4
    go_wp2_with (first | rw [HX.out] | fail)
    refine HBo.out.mono ?_
    rintro e w1 ⟨rfl, hb1⟩
    have HB1 := hide hb1
    clear m0 m1 m2 m3 a0 a1 a2 a3 a4 a5 a6 a7 a8 a9 a10 HBo hb1
    go_wp2_with fail
    refine (HAw.out _ (bt HB0.out HB1.out)).mono ?_
    rintro e w9 ⟨rfl, hb9⟩
    have HE := hide (bt (bt HB0.out HB1.out) hb9)
    clear hb9
    go_wp2_with fail
    go_ret
    exact ⟨rfl, HE.out⟩
end Go.Proofs.YtggaobcdogbjhaaGreatDoor
