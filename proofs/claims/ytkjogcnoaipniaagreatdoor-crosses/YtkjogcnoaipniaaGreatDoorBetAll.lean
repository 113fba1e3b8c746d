/-
  PortalBetween walked. PortalBetween of maps that may not be.
-/
import Derived.Test.YtkjogcnoaipniaaGreatDoorFin
namespace Go.Proofs.YtkjogcnoaipniaaGreatDoor
open Go.RowKit Go.Shelf
set_option linter.unusedVariables false
set_option linter.unusedSimpArgs false
attribute [local go_sem] Oper.semAt_some
theorem run_call9 {ev : Operand → Value} {o : Oper} {w : World} {ar : Array Operand} {ts : Array TypeId} {vs : Array Value} (hop : o.op = .call { callee := .value (.func 9), args := ar, argTypes := ts }) (hf : ev (.func 9) = .func (.func 9) #[] #[]) (hvs : ar.map ev = vs) : (execOp ev o).run Tryz.prog w = .ok (.enter 9 vs) w := by
  unfold execOp
  simp only [hop, resolve, hf, hvs]
  go_simp
theorem run_call10 {ev : Operand → Value} {o : Oper} {w : World} {ar : Array Operand} {ts : Array TypeId} {vs : Array Value} (hop : o.op = .call { callee := .value (.func 10), args := ar, argTypes := ts }) (hf : ev (.func 10) = .func (.func 10) #[] #[]) (hvs : ar.map ev = vs) : (execOp ev o).run Tryz.prog w = .ok (.enter 10 vs) w := by
  unfold execOp
  simp only [hop, resolve, hf, hvs]
  go_simp
theorem run_call13 {ev : Operand → Value} {o : Oper} {w : World} {ar : Array Operand} {ts : Array TypeId} {vs : Array Value} (hop : o.op = .call { callee := .value (.func 13), args := ar, argTypes := ts }) (hf : ev (.func 13) = .func (.func 13) #[] #[]) (hvs : ar.map ev = vs) : (execOp ev o).run Tryz.prog w = .ok (.enter 13 vs) w := by
  unfold execOp
  simp only [hop, resolve, hf, hvs]
  go_simp
theorem run_call11 {ev : Operand → Value} {o : Oper} {w : World} {ar : Array Operand} {ts : Array TypeId} {vs : Array Value} (hop : o.op = .call { callee := .value (.func 11), args := ar, argTypes := ts }) (hf : ev (.func 11) = .func (.func 11) #[] #[]) (hvs : ar.map ev = vs) : (execOp ev o).run Tryz.prog w = .ok (.enter 11 vs) w := by
  unfold execOp
  simp only [hop, resolve, hf, hvs]
  go_simp
theorem readyZ.callG {P : Program} {md : Region.Mode} {ops : Array Oper} {Q : Exit → Act → World → Prop} {S : World → Prop} {zs : List Nat} {n : Nat} {L : Array Bool} {a : Act} {w : World} {i : Nat} {rs : List Nat} {o : Oper} (ho : ops[i]? = some o) (hg : Region.wanted o (yielded ops a.tmps) = true) {f : FuncId}
    {vs : Array Value} (hrun : (execOp a.eval o).run P w = .ok (.enter f vs) w) {R : Ending → World → Prop} (hc : Calls P f vs w R) (hR : ∀ e w', R e w' → ∃ v, e = .returned v ∧ (i ∉ zs → S w') ∧ anyZ P md ops Q S zs n (L.setIfInBounds i true) (a.put o.dst v) w')
    (hrest : readyZ P md ops Q S zs n L a w rs) : readyZ P md ops Q S zs n L a w (i :: rs) := fun j hj => by
  rcases List.mem_cons.1 hj with rfl | hj
  · refine wpOp_step ho (fun K hK => ?_)
    rw [if_pos hg]
    unfold Oper.wp
    rw [hrun]
    refine Calls.mono hc (fun e w' h => ?_)
    obtain ⟨v, rfl, h1, h2⟩ := hR e w' h
    exact hK _ _ ⟨h1, h2⟩
  · exact hrest j hj
set_option maxRecDepth 100000 in
set_option maxHeartbeats 16000000 in
theorem betw_good (wd ht : Nat) (hd : (1 ≤ wd ∧ wd ≤ 128) ∧ 1 ≤ ht ∧ ht ≤ 128) (tv bv : Value) (tl : List Nat) (L : List Bd) (c s k0 k1 k2 : Int) (w : World) (hv : TlR w tv tl) (hb : ∀ x ∈ tl, x < 256) (hl : BdR w bv L) (hg : Grnd w) (ho : Offs w) (hc : chkC wd ht tl L = 0) :
    Calls Tryz.prog 3 #[mp wd ht tv bv, shv c s, .agg #[.int .i64 k0, .int .i64 k1, .int .i64 k2]] w fun e w' => e = .returned (.bool true) ∧ Below w.heap.size w w' := by
  obtain ⟨X, hX⟩ : ∃ X, ((w.alloc (.cells #[.int .i64 (wd : Nat), .int .i64 (ht : Nat), tv, bv] 25)).alloc (.cells #[.int .i64 c, .int .i64 s] 27)).alloc (.cells #[.int .i64 k0, .int .i64 k1, .int .i64 k2] 28) = X := ⟨_, rfl⟩
  have B0 : Below w.heap.size w X := hX ▸ bt (box2 _ _ _) (box1 _ _)
  have M0 : MB X w.heap.size wd ht tv bv := by rw [← hX]; exact ((MB.new w wd ht tv bv).kept (box1 _ _)).kept (box1 _ _)
  have T0 : Two X (w.heap.size + 1) c s := by rw [← hX]; exact (Two.newAt (by simp)).alloc
  have K0 : X.heap[w.heap.size + 2]? = some (.cells #[.int .i64 k0, .int .i64 k1, .int .i64 k2] 28 (0, 0)) := by
    rw [← hX]
    have := heap_alloc_new ((w.alloc (.cells #[.int .i64 (wd : Nat), .int .i64 (ht : Nat), tv, bv] 25)).alloc (.cells #[.int .i64 c, .int .i64 s] 27)) (.cells #[.int .i64 k0, .int .i64 k1, .int .i64 k2] 28)
    simpa using this
  have hzX : w.heap.size + 2 < X.heap.size := (Array.getElem?_eq_some_iff.1 K0).1
  have HBo := hide (both_ok wd ht _ _ tl L X (hv.kept B0) hb (hl.kept B0) hc)
  have HAw : Hid (∀ wx, Below w.heap.size w wx → Calls Tryz.prog 7 #[] wx fun e w' => e = .returned (.bool true) ∧ Below wx.heap.size wx w') := hide fun wx q => awake_is wx (hg.kept q) (ho.kept q)
  have HX := hide hX
  have HB0 := hide B0
  have Hgo := hide (And.intro hg ho)
  have hvf := hv
  have hlf := hl
  obtain ⟨sa1, cap1, rfl, -⟩ := hvf
  obtain ⟨sa2, cap2, rfl, -⟩ := hlf
  obtain ⟨m0, m1, m2, m3⟩ := M0.c
  clear hX B0 hv hl hb hg ho hc M0
  go_enter Tryz.func3, Tryz.ntmps3
  go_wp2_with fail
  rw [HX.out]
  simp only [Nat.add_assoc, Nat.reduceAdd]
  refine HBo.out.mono ?_
  rintro e w1 ⟨p, r, rfl, hWn, hRl, hb1⟩
  have HW1 := hide hWn.1
  have HR1 := hide hRl
  have HB1 := hide hb1
  have K1 : w1.heap[w.heap.size + 2]? = some (.cells #[.int .i64 k0, .int .i64 k1, .int .i64 k2] 28 (0, 0)) := (hb1.block _ hzX).trans K0
  have T1 := T0.kept hb1
  have HS : (fun wx : World => wx.cell? ⟨w.heap.size + 2, 0, none⟩ = some (.int .i64 k0) ∧ wx.cell? ⟨w.heap.size + 2, 1, none⟩ = some (.int .i64 k1) ∧ wx.cell? ⟨w.heap.size + 2, 2, none⟩ = some (.int .i64 k2)) w1.drew := ⟨cell_of_row w1 (w.heap.size + 2) 0 _ _ _ K1, cell_of_row w1 (w.heap.size + 2) 1 _ _ _ K1, cell_of_row w1 (w.heap.size + 2) 2 _ _ _ K1⟩
  have HK2 : Hid ((w1.drew.alloc (.cells #[.int .i64 0, .int .i64 0] 35)).heap[w.heap.size + 2]? = some (.cells #[.int .i64 k0, .int .i64 k1, .int .i64 k2] 28 (0, 0)) ∧ w.heap.size + 2 < w1.heap.size) := hide ⟨((box1 w1.drew _).block _ (Array.getElem?_eq_some_iff.1 K1).1).trans K1, (Array.getElem?_eq_some_iff.1 K1).1⟩
  have HSa : (fun wx : World => wx.cell? ⟨w.heap.size + 2, 0, none⟩ = some (.int .i64 k0) ∧ wx.cell? ⟨w.heap.size + 2, 1, none⟩ = some (.int .i64 k1) ∧ wx.cell? ⟨w.heap.size + 2, 2, none⟩ = some (.int .i64 k2)) (w1.drew.alloc (.cells #[.int .i64 0, .int .i64 0] 35)) := by
    have K2 : (w1.drew.alloc (.cells #[.int .i64 0, .int .i64 0] 35)).heap[w.heap.size + 2]? = some (.cells #[.int .i64 k0, .int .i64 k1, .int .i64 k2] 28 (0, 0)) := ((box1 w1.drew _).block _ (Array.getElem?_eq_some_iff.1 K1).1).trans K1
    exact ⟨cell_of_row _ (w.heap.size + 2) 0 _ _ _ K2, cell_of_row _ (w.heap.size + 2) 1 _ _ _ K2, cell_of_row _ (w.heap.size + 2) 2 _ _ _ K2⟩
  have HT1 := hide T1
  clear hWn hRl hb1 K1 K0 T1 T0 m0 m1 m2 m3 HBo HX hzX
  go_wp2_with fail
  refine wp_only ?_
  refine wp_region_z (fun wx : World => wx.cell? ⟨w.heap.size + 2, 0, none⟩ = some (.int .i64 k0) ∧ wx.cell? ⟨w.heap.size + 2, 1, none⟩ = some (.int .i64 k1) ∧ wx.cell? ⟨w.heap.size + 2, 2, none⟩ = some (.int .i64 k2)) [9] (by kernel_rfl) ?_
  refine anyZ_take 0 30 (v := .pointer (some ⟨w.heap.size + 2, 0, none⟩)) rfl (by kernel_rfl) (fun _ _ _ h => h.elim) (Or.inl ⟨by rfl, fun wx hx => by obtain ⟨p0, p1, p2⟩ := hx; clear HS; go_simp⟩) HS ?_
  try simp only [Act.put, List.getElem_toArray, List.getElem_cons_zero, List.getElem_cons_succ, List.setIfInBounds_toArray, List.set_cons_zero, List.set_cons_succ]
  refine anyZ_take 1 30 (v := .int .i64 k0) rfl (by kernel_rfl) (fun _ _ _ h => h.elim) (Or.inl ⟨by rfl, fun wx hx => by obtain ⟨p0, p1, p2⟩ := hx; clear HS; go_simp⟩) HS ?_
  try simp only [Act.put, List.getElem_toArray, List.getElem_cons_zero, List.getElem_cons_succ, List.setIfInBounds_toArray, List.set_cons_zero, List.set_cons_succ]
  refine anyZ_take 2 30 (v := .pointer (some ⟨w.heap.size + 2, 1, none⟩)) rfl (by kernel_rfl) (fun _ _ _ h => h.elim) (Or.inl ⟨by rfl, fun wx hx => by obtain ⟨p0, p1, p2⟩ := hx; clear HS; go_simp⟩) HS ?_
  try simp only [Act.put, List.getElem_toArray, List.getElem_cons_zero, List.getElem_cons_succ, List.setIfInBounds_toArray, List.set_cons_zero, List.set_cons_succ]
  refine anyZ_take 3 30 (v := .int .i64 k1) rfl (by kernel_rfl) (fun _ _ _ h => h.elim) (Or.inl ⟨by rfl, fun wx hx => by obtain ⟨p0, p1, p2⟩ := hx; clear HS; go_simp⟩) HS ?_
  try simp only [Act.put, List.getElem_toArray, List.getElem_cons_zero, List.getElem_cons_succ, List.setIfInBounds_toArray, List.set_cons_zero, List.set_cons_succ]
  refine anyZ_take 4 30 (v := cel k0 k1) rfl (by kernel_rfl) (fun _ _ _ h => h.elim) (Or.inl ⟨by rfl, fun wx hx => by obtain ⟨p0, p1, p2⟩ := hx; clear HS; go_simp⟩) HS ?_
  try simp only [Act.put, List.getElem_toArray, List.getElem_cons_zero, List.getElem_cons_succ, List.setIfInBounds_toArray, List.set_cons_zero, List.set_cons_succ]
  refine anyZ_take 5 30 (v := .pointer (some ⟨w.heap.size + 2, 2, none⟩)) rfl (by kernel_rfl) (fun _ _ _ h => h.elim) (Or.inl ⟨by rfl, fun wx hx => by obtain ⟨p0, p1, p2⟩ := hx; clear HS; go_simp⟩) HS ?_
  try simp only [Act.put, List.getElem_toArray, List.getElem_cons_zero, List.getElem_cons_succ, List.setIfInBounds_toArray, List.set_cons_zero, List.set_cons_succ]
  refine anyZ_take 6 30 (v := .int .i64 k2) rfl (by kernel_rfl) (fun _ _ _ h => h.elim) (Or.inl ⟨by rfl, fun wx hx => by obtain ⟨p0, p1, p2⟩ := hx; clear HS; go_simp⟩) HS ?_
  try simp only [Act.put, List.getElem_toArray, List.getElem_cons_zero, List.getElem_cons_succ, List.setIfInBounds_toArray, List.set_cons_zero, List.set_cons_succ]
  refine anyZ_ready (rs := [7]) (by kernel_rfl) (by simp) ?_
  refine readyZ.cons rfl rfl (v' := ptr w1.heap.size) (w' := w1.drew.alloc (.cells #[.int .i64 0, .int .i64 0] 35)) (by clear HS HSa; go_simp) (fun _ => HSa) ?_ readyZ.nil
  try simp only [Act.put, List.getElem_toArray, List.getElem_cons_zero, List.getElem_cons_succ, List.setIfInBounds_toArray, List.set_cons_zero, List.set_cons_succ]
  obtain ⟨Zc, hZc⟩ : ∃ Zc, ((w1.drew.alloc (.cells #[.int .i64 0, .int .i64 0] 35)).setCell ⟨w1.heap.size, 0, none⟩ (.int .i64 k0)).setCell ⟨w1.heap.size, 1, none⟩ (.int .i64 k1) = Zc := ⟨_, rfl⟩
  have TA : Two (w1.drew.alloc (.cells #[.int .i64 0, .int .i64 0] 35)) w1.heap.size 0 0 := Two.newAt rfl
  have TZ : Two Zc w1.heap.size k0 k1 := by rw [← hZc]; exact TA.set
  have BZc : Below w1.heap.size w1 Zc := by rw [← hZc]; exact ((Below.trans (Below.drew (Below.refl w1.heap.size w1)) (box1 w1.drew _)).setCell (p := ⟨w1.heap.size, 0, none⟩) (Nat.le_refl _) _).setCell (p := ⟨w1.heap.size, 1, none⟩) (Nat.le_refl _) _
  obtain ⟨⟨t0, t1⟩, ⟨t2, t3⟩, -⟩ := TA
  have HSz : (fun wx : World => wx.cell? ⟨w.heap.size + 2, 0, none⟩ = some (.int .i64 k0) ∧ wx.cell? ⟨w.heap.size + 2, 1, none⟩ = some (.int .i64 k1) ∧ wx.cell? ⟨w.heap.size + 2, 2, none⟩ = some (.int .i64 k2)) (((w1.drew.alloc (.cells #[.int .i64 0, .int .i64 0] 35)).setCell ⟨w1.heap.size, 0, none⟩ (.int .i64 k0)).setCell ⟨w1.heap.size, 1, none⟩ (.int .i64 k1)) := by
    have K2 := HK2.out
    have K3 : (((w1.drew.alloc (.cells #[.int .i64 0, .int .i64 0] 35)).setCell ⟨w1.heap.size, 0, none⟩ (.int .i64 k0)).setCell ⟨w1.heap.size, 1, none⟩ (.int .i64 k1)).heap[w.heap.size + 2]? = some (.cells #[.int .i64 k0, .int .i64 k1, .int .i64 k2] 28 (0, 0)) := (Below.heap_setCell _ _ _ _ (by simp; omega)).trans ((Below.heap_setCell _ _ _ _ (by simp; omega)).trans K2.1)
    exact ⟨cell_of_row _ (w.heap.size + 2) 0 _ _ _ K3, cell_of_row _ (w.heap.size + 2) 1 _ _ _ K3, cell_of_row _ (w.heap.size + 2) 2 _ _ _ K3⟩
  have HZc := hide hZc
  have HTZ := hide TZ
  have HBZ := hide BZc
  clear hZc TZ BZc HS HSa HK2
  refine anyZ_ready (rs := [8]) (by kernel_rfl) (by simp) ?_
  refine readyZ.skip rfl rfl (w' := ((w1.drew.alloc (.cells #[.int .i64 0, .int .i64 0] 35)).setCell ⟨w1.heap.size, 0, none⟩ (.int .i64 k0)).setCell ⟨w1.heap.size, 1, none⟩ (.int .i64 k1)) (by clear HSz; go_simp) (fun _ => HSz) ?_ readyZ.nil
  clear HSz
  rw [HZc.out]
  clear t0 t1 t2 t3 HZc
  refine anyZ_ready (rs := [9]) (by kernel_rfl) (by simp) ?_
  refine readyZ.cons rfl rfl (v' := .int .i64 k2) (w' := Zc) (by go_simp) (fun h => absurd (by decide) h) ?_ readyZ.nil
  try simp only [Act.put, List.getElem_toArray, List.getElem_cons_zero, List.getElem_cons_succ, List.setIfInBounds_toArray, List.set_cons_zero, List.set_cons_succ]
  refine anyZ_done (by kernel_rfl) ?_ _
  dsimp only [Only, Exit.then]
  have TS := HT1.out.kept HBZ.out
  obtain ⟨⟨s0, s1⟩, -, -⟩ := id TS
  have hdI : (1 : Int) ≤ (wd : Nat) ∧ ((wd : Nat) : Int) ≤ 128 := by omega
  have hdJ : (1 : Int) ≤ (ht : Nat) ∧ ((ht : Nat) : Int) ≤ 128 := by omega
  have HOf := hide (of_gr (w := Zc) c s (HR1.out.kept HBZ.out) hd rfl)
  have HTS := hide TS
  clear TS HT1
  go_wp2_with fail
  refine HOf.out.mono ?_
  rintro e w2 ⟨iv, rfl, hiv, hb2⟩
  obtain ⟨a, cap, hivf, -, -⟩ := Rw.form cB_len hiv
  obtain ⟨n, hn⟩ : ∃ n, ((List.range (wd * ht)).map (fun k => stB wd ht tl (whoF L) c s ((k % wd : Nat) : Int) ((k / wd : Nat) : Int))).length = n := ⟨_, rfl⟩
  rw [hn] at hivf
  subst hivf
  obtain ⟨Zg, hZg⟩ : ∃ Zg, w2.alloc (.cells #[.int .i64 (wd : Nat), .int .i64 (ht : Nat), .slice a n cap] 38) = Zg := ⟨_, rfl⟩
  have BZg : Below w2.heap.size w2 Zg := by rw [← hZg]; exact box1 _ _
  have GZg : GB Zg w2.heap.size wd ht (.slice a n cap) := by rw [← hZg]; exact GB.new w2 wd ht _
  have hbW : Below w.heap.size w Zg := bt HB0.out (bt HB1.out (bt HBZ.out (bt hb2 BZg)))
  have hb1Z : Below w1.heap.size w1 Zg := bt HBZ.out (bt hb2 BZg)
  have HK : Hid (∀ wx, Below Zg.heap.size Zg wx → (fun wx : World => (wx.cell? ⟨w.heap.size + 1, 0, none⟩ = some (.int .i64 c) ∧ wx.cell? ⟨w.heap.size + 1, 1, none⟩ = some (.int .i64 s)) ∧ (wx.cell? ⟨w1.heap.size, 0, none⟩ = some (.int .i64 k0) ∧ wx.cell? ⟨w1.heap.size, 1, none⟩ = some (.int .i64 k1)) ∧ wx.cell? ⟨w2.heap.size, 0, none⟩ = some (.int .i64 (wd : Nat)) ∧ wx.cell? ⟨w2.heap.size, 1, none⟩ = some (.int .i64 (ht : Nat)) ∧ wx.cell? ⟨w2.heap.size, 2, none⟩ = some (.slice a n cap)) wx) := hide fun wx q => ⟨((HTS.out.kept (bt hb2 BZg)).kept q).1, ((HTZ.out.kept (bt hb2 BZg)).kept q).1, (GZg.upto q).c.1.1, (GZg.upto q).c.1.2, (GZg.upto q).c.2⟩
  have hgo := Hgo.out
  have hiv2 := hiv.upto BZg
  have hSt : ∀ u v, stB wd ht tl (whoF L) c s u v = true → (0 ≤ u ∧ u < (wd : Nat)) ∧ 0 ≤ v ∧ v < (ht : Nat) := fun u v h => st_in hdI hdJ u v h
  have HP9 : Hid (∀ wx, Below Zg.heap.size Zg wx → Calls Tryz.prog 9 #[ptr p, shv c s, cel k0 k1, .int .i64 k2] wx fun e w' => ∃ lv, e = .returned lv ∧ Rq 48 w' lv (rnQ (stB wd ht tl (whoF L) c s) wd ht k0 k1 k2) ∧ Below wx.heap.size wx w' ∧ ∀ g, lv.ownBlock = some g → wx.heap.size ≤ g) := hide fun wx q => pruns_is c s k0 k1 k2 (HW1.out.kept (bt hb1Z q)) (hgo.1.kept (bt hbW q)) (hgo.2.kept (bt hbW q)) hSt
  have HP12 : Hid (∀ wx, Below Zg.heap.size Zg wx → Calls Tryz.prog 12 #[ptr p, shv c s, cel k0 k1, .int .i64 k2] wx fun e w' => ∃ lv, e = .returned lv ∧ Rq 64 w' lv (ptQ (stB wd ht tl (whoF L) c s) wd ht k0 k1 k2) ∧ Below wx.heap.size wx w' ∧ ∀ g, lv.ownBlock = some g → wx.heap.size ≤ g) := hide fun wx q => pbet_is c s k0 k1 k2 (HW1.out.kept (bt hb1Z q)) (hgo.1.kept (bt hbW q)) (hgo.2.kept (bt hbW q)) hSt
  have HD10 : Hid (∀ wx, Below Zg.heap.size Zg wx → Calls Tryz.prog 10 #[gdv wd ht (.slice a n cap), cel k0 k1, .int .i64 k2] wx fun e w' => ∃ lv, e = .returned lv ∧ Rq 48 w' lv (rnQ (stB wd ht tl (whoF L) c s) wd ht k0 k1 k2) ∧ Below wx.heap.size wx w' ∧ ∀ g, lv.ownBlock = some g → wx.heap.size ≤ g) := hide fun wx q => druns_is _ k0 k1 k2 a n cap hdI hdJ hSt (dst_is hd rfl (hiv2.upto q) k2)
  have HD13 : Hid (∀ wx, Below Zg.heap.size Zg wx → Calls Tryz.prog 13 #[gdv wd ht (.slice a n cap), cel k0 k1, .int .i64 k2] wx fun e w' => ∃ lv, e = .returned lv ∧ Rq 64 w' lv (ptQ (stB wd ht tl (whoF L) c s) wd ht k0 k1 k2) ∧ Below wx.heap.size wx w' ∧ ∀ g, lv.ownBlock = some g → wx.heap.size ≤ g) := hide fun wx q => dbet_is _ k0 k1 k2 a n cap hdI hdJ hSt (dst_is hd rfl (hiv2.upto q) k2)
  have hLr : (rnQ (stB wd ht tl (whoF L) c s) wd ht k0 k1 k2).length ≤ 8 := by unfold rnQ; rw [List.length_map]; exact (rnR_ok _ _ _ _ _ _).2
  have hLp := ptQ_len (stB wd ht tl (whoF L) c s) wd ht k0 k1 k2
  generalize rnQ (stB wd ht tl (whoF L) c s) wd ht k0 k1 k2 = Lr at HP9 HD10 hLr
  generalize ptQ (stB wd ht tl (whoF L) c s) wd ht k0 k1 k2 = Lp at HP12 HD13 hLp
  obtain ⟨n1, hn1⟩ : ∃ n, Lr.length = n := ⟨_, rfl⟩
  have hn8 : (0 : Int) ≤ (n1 : Nat) ∧ ((n1 : Nat) : Int) ≤ 8 := by omega
  have HBW := hide hbW
  have HZg := hide hZg
  have HLp := hide hLp
  have Hn1 := hide hn1
  have HS := HK.out _ (Below.drew (Below.refl Zg.heap.size Zg))
  clear hb2 BZg GZg hbW hb1Z hgo hiv hiv2 hSt hLr hLp hn1 hZg s0 s1 hdI hdJ HOf HTS HTZ HBZ HR1 HW1 HB1 HB0 Hgo hn
  go_wp2_with (rw [HZg.out])
  refine wp_only ?_
  refine wp_region_z (fun wx : World => (wx.cell? ⟨w.heap.size + 1, 0, none⟩ = some (.int .i64 c) ∧ wx.cell? ⟨w.heap.size + 1, 1, none⟩ = some (.int .i64 s)) ∧ (wx.cell? ⟨w1.heap.size, 0, none⟩ = some (.int .i64 k0) ∧ wx.cell? ⟨w1.heap.size, 1, none⟩ = some (.int .i64 k1)) ∧ wx.cell? ⟨w2.heap.size, 0, none⟩ = some (.int .i64 (wd : Nat)) ∧ wx.cell? ⟨w2.heap.size, 1, none⟩ = some (.int .i64 (ht : Nat)) ∧ wx.cell? ⟨w2.heap.size, 2, none⟩ = some (.slice a n cap)) [9, 10] (by kernel_rfl) ?_
  refine anyZ_take 0 30 (v := ptr p) rfl (by kernel_rfl) (fun _ _ _ h => h.elim) (Or.inl ⟨by rfl, fun wx hx => by obtain ⟨⟨p0, p1⟩, ⟨p2, p3⟩, p4, p5, p6⟩ := hx; clear HS; go_simp⟩) HS ?_
  try simp only [Act.put, List.getElem_toArray, List.getElem_cons_zero, List.getElem_cons_succ, List.setIfInBounds_toArray, List.set_cons_zero, List.set_cons_succ]
  refine anyZ_take 1 30 (v := shv c s) rfl (by kernel_rfl) (fun _ _ _ h => h.elim) (Or.inl ⟨by rfl, fun wx hx => by obtain ⟨⟨p0, p1⟩, ⟨p2, p3⟩, p4, p5, p6⟩ := hx; clear HS; go_simp⟩) HS ?_
  try simp only [Act.put, List.getElem_toArray, List.getElem_cons_zero, List.getElem_cons_succ, List.setIfInBounds_toArray, List.set_cons_zero, List.set_cons_succ]
  refine anyZ_take 2 30 (v := cel k0 k1) rfl (by kernel_rfl) (fun _ _ _ h => h.elim) (Or.inl ⟨by rfl, fun wx hx => by obtain ⟨⟨p0, p1⟩, ⟨p2, p3⟩, p4, p5, p6⟩ := hx; clear HS; go_simp⟩) HS ?_
  try simp only [Act.put, List.getElem_toArray, List.getElem_cons_zero, List.getElem_cons_succ, List.setIfInBounds_toArray, List.set_cons_zero, List.set_cons_succ]
  refine anyZ_take 3 30 (v := .int .i64 k2) rfl (by kernel_rfl) (fun _ _ _ h => h.elim) (Or.inl ⟨by rfl, fun wx hx => by obtain ⟨⟨p0, p1⟩, ⟨p2, p3⟩, p4, p5, p6⟩ := hx; clear HS; go_simp⟩) HS ?_
  try simp only [Act.put, List.getElem_toArray, List.getElem_cons_zero, List.getElem_cons_succ, List.setIfInBounds_toArray, List.set_cons_zero, List.set_cons_succ]
  refine anyZ_take 5 30 (v := gdv wd ht (.slice a n cap)) rfl (by kernel_rfl) (fun _ _ _ h => h.elim) (Or.inl ⟨by rfl, fun wx hx => by obtain ⟨⟨p0, p1⟩, ⟨p2, p3⟩, p4, p5, p6⟩ := hx; clear HS; go_simp⟩) HS ?_
  try simp only [Act.put, List.getElem_toArray, List.getElem_cons_zero, List.getElem_cons_succ, List.setIfInBounds_toArray, List.set_cons_zero, List.set_cons_succ]
  refine anyZ_take 6 30 (v := cel k0 k1) rfl (by kernel_rfl) (fun _ _ _ h => h.elim) (Or.inl ⟨by rfl, fun wx hx => by obtain ⟨⟨p0, p1⟩, ⟨p2, p3⟩, p4, p5, p6⟩ := hx; clear HS; go_simp⟩) HS ?_
  try simp only [Act.put, List.getElem_toArray, List.getElem_cons_zero, List.getElem_cons_succ, List.setIfInBounds_toArray, List.set_cons_zero, List.set_cons_succ]
  refine anyZ_take 7 30 (v := .int .i64 k2) rfl (by kernel_rfl) (fun _ _ _ h => h.elim) (Or.inl ⟨by rfl, fun wx hx => by obtain ⟨⟨p0, p1⟩, ⟨p2, p3⟩, p4, p5, p6⟩ := hx; clear HS; go_simp⟩) HS ?_
  try simp only [Act.put, List.getElem_toArray, List.getElem_cons_zero, List.getElem_cons_succ, List.setIfInBounds_toArray, List.set_cons_zero, List.set_cons_succ]
  refine anyZ_ready (rs := [4]) (by kernel_rfl) (by simp) ?_
  refine readyZ.call rfl rfl (run_call9 (by rfl) (by rfl) (by simp only [List.map_toArray, List.map_cons, List.map_nil]; rfl)) (HP9.out _ (Below.drew (Below.refl Zg.heap.size Zg))) ?_ readyZ.nil
  rintro e Y1 ⟨lv1, rfl, row1, hbY1', -⟩
  have hbY1 : Below Zg.heap.size Zg Y1 := Below.trans (Below.drew (Below.refl Zg.heap.size Zg)) hbY1'
  have HS1 := HK.out _ hbY1
  refine ⟨_, rfl, fun _ => HS1, ?_⟩
  try simp only [Act.put, List.getElem_toArray, List.getElem_cons_zero, List.getElem_cons_succ, List.setIfInBounds_toArray, List.set_cons_zero, List.set_cons_succ]
  refine anyZ_ready (rs := [8]) (by kernel_rfl) (by simp) ?_
  refine readyZ.call rfl rfl (run_call10 (by rfl) (by rfl) (by simp only [List.map_toArray, List.map_cons, List.map_nil]; rfl)) (HD10.out _ hbY1) ?_ readyZ.nil
  rintro e Y2 ⟨lv2, rfl, row2, hbY2', -⟩
  have hbY2 := bt hbY1 hbY2'
  have HS2y := HK.out _ hbY2
  have row1b := row1.upto hbY2'
  refine ⟨_, rfl, fun _ => HS2y, ?_⟩
  try simp only [Act.put, List.getElem_toArray, List.getElem_cons_zero, List.getElem_cons_succ, List.setIfInBounds_toArray, List.set_cons_zero, List.set_cons_succ]
  obtain ⟨a1, c1, hlv1⟩ := row1b.slice4
  obtain ⟨a2, c2, hlv2⟩ := row2.slice4
  rw [Hn1.out] at hlv1 hlv2
  subst hlv1
  subst hlv2
  refine anyZ_ready (rs := [9]) (by kernel_rfl) (by simp) ?_
  refine readyZ.cons rfl rfl (v' := .slice a1 n1 c1) (w' := Y2) (by clear HS HS1 HS2y; go_simp) (fun h => absurd (by decide) h) ?_ readyZ.nil
  try simp only [Act.put, List.getElem_toArray, List.getElem_cons_zero, List.getElem_cons_succ, List.setIfInBounds_toArray, List.set_cons_zero, List.set_cons_succ]
  refine anyZ_ready (rs := [10]) (by kernel_rfl) (by simp) ?_
  refine readyZ.cons rfl rfl (v' := .slice a2 n1 c2) (w' := Y2) (by clear HS HS1 HS2y; go_simp) (fun h => absurd (by decide) h) ?_ readyZ.nil
  try simp only [Act.put, List.getElem_toArray, List.getElem_cons_zero, List.getElem_cons_succ, List.setIfInBounds_toArray, List.set_cons_zero, List.set_cons_succ]
  refine anyZ_done (by kernel_rfl) ?_ _
  dsimp only [Only, Exit.then]
  have HR1 := hide row1b
  have HR2 := hide row2
  have HbY2 := hide hbY2
  have HS2 := HK.out _ (Below.drew hbY2)
  clear HS HS1 HS2y row1 row1b row2 hbY1 hbY1' hbY2 hbY2' HP9 HD10
  go_wp2_with fail
  refine wp_only ?_
  refine wp_region_z (fun wx : World => (wx.cell? ⟨w.heap.size + 1, 0, none⟩ = some (.int .i64 c) ∧ wx.cell? ⟨w.heap.size + 1, 1, none⟩ = some (.int .i64 s)) ∧ (wx.cell? ⟨w1.heap.size, 0, none⟩ = some (.int .i64 k0) ∧ wx.cell? ⟨w1.heap.size, 1, none⟩ = some (.int .i64 k1)) ∧ wx.cell? ⟨w2.heap.size, 0, none⟩ = some (.int .i64 (wd : Nat)) ∧ wx.cell? ⟨w2.heap.size, 1, none⟩ = some (.int .i64 (ht : Nat)) ∧ wx.cell? ⟨w2.heap.size, 2, none⟩ = some (.slice a n cap)) [] (by kernel_rfl) ?_
  refine anyZ_take 0 30 (v := .slice a1 n1 c1) rfl (by kernel_rfl) (fun _ _ _ h => h.elim) (Or.inl ⟨by rfl, fun wx hx => by obtain ⟨⟨p0, p1⟩, ⟨p2, p3⟩, p4, p5, p6⟩ := hx; clear HS2; go_simp⟩) HS2 ?_
  try simp only [Act.put, List.getElem_toArray, List.getElem_cons_zero, List.getElem_cons_succ, List.setIfInBounds_toArray, List.set_cons_zero, List.set_cons_succ]
  refine anyZ_take 1 30 (v := .int .i64 (n1 : Nat)) rfl (by kernel_rfl) (fun _ _ _ h => h.elim) (Or.inl ⟨by rfl, fun wx hx => by obtain ⟨⟨p0, p1⟩, ⟨p2, p3⟩, p4, p5, p6⟩ := hx; clear HS2; go_simp⟩) HS2 ?_
  try simp only [Act.put, List.getElem_toArray, List.getElem_cons_zero, List.getElem_cons_succ, List.setIfInBounds_toArray, List.set_cons_zero, List.set_cons_succ]
  refine anyZ_take 2 30 (v := .slice a2 n1 c2) rfl (by kernel_rfl) (fun _ _ _ h => h.elim) (Or.inl ⟨by rfl, fun wx hx => by obtain ⟨⟨p0, p1⟩, ⟨p2, p3⟩, p4, p5, p6⟩ := hx; clear HS2; go_simp⟩) HS2 ?_
  try simp only [Act.put, List.getElem_toArray, List.getElem_cons_zero, List.getElem_cons_succ, List.setIfInBounds_toArray, List.set_cons_zero, List.set_cons_succ]
  refine anyZ_take 3 30 (v := .int .i64 (n1 : Nat)) rfl (by kernel_rfl) (fun _ _ _ h => h.elim) (Or.inl ⟨by rfl, fun wx hx => by obtain ⟨⟨p0, p1⟩, ⟨p2, p3⟩, p4, p5, p6⟩ := hx; clear HS2; go_simp⟩) HS2 ?_
  try simp only [Act.put, List.getElem_toArray, List.getElem_cons_zero, List.getElem_cons_succ, List.setIfInBounds_toArray, List.set_cons_zero, List.set_cons_succ]
  refine anyZ_take 4 30 (v := .bool false) rfl (by kernel_rfl) (fun _ _ _ h => h.elim) (Or.inl ⟨by rfl, fun wx hx => by obtain ⟨⟨p0, p1⟩, ⟨p2, p3⟩, p4, p5, p6⟩ := hx; clear HS2; go_simp⟩) HS2 ?_
  try simp only [Act.put, List.getElem_toArray, List.getElem_cons_zero, List.getElem_cons_succ, List.setIfInBounds_toArray, List.set_cons_zero, List.set_cons_succ]
  refine anyZ_take 5 30 (v := .bool false) rfl (by kernel_rfl) (fun _ _ _ h => h.elim) (Or.inl ⟨by rfl, fun wx hx => by obtain ⟨⟨p0, p1⟩, ⟨p2, p3⟩, p4, p5, p6⟩ := hx; clear HS2; go_simp⟩) HS2 ?_
  try simp only [Act.put, List.getElem_toArray, List.getElem_cons_zero, List.getElem_cons_succ, List.setIfInBounds_toArray, List.set_cons_zero, List.set_cons_succ]
  refine anyZ_take 6 30 (v := ptr p) rfl (by kernel_rfl) (fun _ _ _ h => h.elim) (Or.inl ⟨by rfl, fun wx hx => by obtain ⟨⟨p0, p1⟩, ⟨p2, p3⟩, p4, p5, p6⟩ := hx; clear HS2; go_simp⟩) HS2 ?_
  try simp only [Act.put, List.getElem_toArray, List.getElem_cons_zero, List.getElem_cons_succ, List.setIfInBounds_toArray, List.set_cons_zero, List.set_cons_succ]
  refine anyZ_take 7 30 (v := shv c s) rfl (by kernel_rfl) (fun _ _ _ h => h.elim) (Or.inl ⟨by rfl, fun wx hx => by obtain ⟨⟨p0, p1⟩, ⟨p2, p3⟩, p4, p5, p6⟩ := hx; clear HS2; go_simp⟩) HS2 ?_
  try simp only [Act.put, List.getElem_toArray, List.getElem_cons_zero, List.getElem_cons_succ, List.setIfInBounds_toArray, List.set_cons_zero, List.set_cons_succ]
  refine anyZ_take 8 30 (v := cel k0 k1) rfl (by kernel_rfl) (fun _ _ _ h => h.elim) (Or.inl ⟨by rfl, fun wx hx => by obtain ⟨⟨p0, p1⟩, ⟨p2, p3⟩, p4, p5, p6⟩ := hx; clear HS2; go_simp⟩) HS2 ?_
  try simp only [Act.put, List.getElem_toArray, List.getElem_cons_zero, List.getElem_cons_succ, List.setIfInBounds_toArray, List.set_cons_zero, List.set_cons_succ]
  refine anyZ_take 9 30 (v := .int .i64 k2) rfl (by kernel_rfl) (fun _ _ _ h => h.elim) (Or.inl ⟨by rfl, fun wx hx => by obtain ⟨⟨p0, p1⟩, ⟨p2, p3⟩, p4, p5, p6⟩ := hx; clear HS2; go_simp⟩) HS2 ?_
  try simp only [Act.put, List.getElem_toArray, List.getElem_cons_zero, List.getElem_cons_succ, List.setIfInBounds_toArray, List.set_cons_zero, List.set_cons_succ]
  refine anyZ_take 11 30 (v := gdv wd ht (.slice a n cap)) rfl (by kernel_rfl) (fun _ _ _ h => h.elim) (Or.inl ⟨by rfl, fun wx hx => by obtain ⟨⟨p0, p1⟩, ⟨p2, p3⟩, p4, p5, p6⟩ := hx; clear HS2; go_simp⟩) HS2 ?_
  try simp only [Act.put, List.getElem_toArray, List.getElem_cons_zero, List.getElem_cons_succ, List.setIfInBounds_toArray, List.set_cons_zero, List.set_cons_succ]
  refine anyZ_take 12 30 (v := cel k0 k1) rfl (by kernel_rfl) (fun _ _ _ h => h.elim) (Or.inl ⟨by rfl, fun wx hx => by obtain ⟨⟨p0, p1⟩, ⟨p2, p3⟩, p4, p5, p6⟩ := hx; clear HS2; go_simp⟩) HS2 ?_
  try simp only [Act.put, List.getElem_toArray, List.getElem_cons_zero, List.getElem_cons_succ, List.setIfInBounds_toArray, List.set_cons_zero, List.set_cons_succ]
  refine anyZ_take 13 30 (v := .int .i64 k2) rfl (by kernel_rfl) (fun _ _ _ h => h.elim) (Or.inl ⟨by rfl, fun wx hx => by obtain ⟨⟨p0, p1⟩, ⟨p2, p3⟩, p4, p5, p6⟩ := hx; clear HS2; go_simp⟩) HS2 ?_
  try simp only [Act.put, List.getElem_toArray, List.getElem_cons_zero, List.getElem_cons_succ, List.setIfInBounds_toArray, List.set_cons_zero, List.set_cons_succ]
  refine anyZ_ready (rs := [10]) (by kernel_rfl) (by simp) ?_
  refine readyZ.callG rfl (by rfl) (run_call12 (by rfl) (by rfl) (by simp only [List.map_toArray, List.map_cons, List.map_nil]; rfl)) (HP12.out _ (Below.drew HbY2.out)) ?_ readyZ.nil
  rintro e Y3 ⟨lv3, rfl, row3, hbY3', -⟩
  have hbY3 : Below Y2.heap.size Y2 Y3 := Below.trans (Below.drew (Below.refl Y2.heap.size Y2)) hbY3'
  have HS3 := HK.out _ (bt HbY2.out hbY3)
  refine ⟨_, rfl, fun _ => HS3, ?_⟩
  try simp only [Act.put, List.getElem_toArray, List.getElem_cons_zero, List.getElem_cons_succ, List.setIfInBounds_toArray, List.set_cons_zero, List.set_cons_succ]
  refine anyZ_ready (rs := [14]) (by kernel_rfl) (by simp) ?_
  refine readyZ.callG rfl (by rfl) (run_call13 (by rfl) (by rfl) (by simp only [List.map_toArray, List.map_cons, List.map_nil]; rfl)) (HD13.out _ (bt HbY2.out hbY3)) ?_ readyZ.nil
  rintro e Y4 ⟨lv4, rfl, row4, hbY4, -⟩
  have row3b := row3.upto hbY4
  have HS4 := HK.out _ (bt HbY2.out (bt hbY3 hbY4))
  refine ⟨_, rfl, fun _ => HS4, ?_⟩
  try simp only [Act.put, List.getElem_toArray, List.getElem_cons_zero, List.getElem_cons_succ, List.setIfInBounds_toArray, List.set_cons_zero, List.set_cons_succ]
  refine anyZ_ready (rs := [15]) (by kernel_rfl) (by simp) ?_
  refine readyZ.callG rfl (by rfl) (run_call11 (by rfl) (by rfl) (by simp only [List.map_toArray, List.map_cons, List.map_nil]; rfl)) (same_yes (by have := HLp.out; omega) row3b row4) ?_ readyZ.nil
  rintro e Y5 ⟨rfl, hbY5⟩
  have hbF := bt hbY3 (bt hbY4 hbY5)
  have HS5 := HK.out _ (bt HbY2.out hbF)
  refine ⟨_, rfl, fun _ => HS5, ?_⟩
  try simp only [Act.put, List.getElem_toArray, List.getElem_cons_zero, List.getElem_cons_succ, List.setIfInBounds_toArray, List.set_cons_zero, List.set_cons_succ]
  refine anyZ_take 16 30 (v := .bool false) rfl (by kernel_rfl) (fun _ _ _ h => h.elim) (Or.inl ⟨by rfl, fun wx hx => by obtain ⟨⟨p0, p1⟩, ⟨p2, p3⟩, p4, p5, p6⟩ := hx; clear HS5; go_simp⟩) HS5 ?_
  try simp only [Act.put, List.getElem_toArray, List.getElem_cons_zero, List.getElem_cons_succ, List.setIfInBounds_toArray, List.set_cons_zero, List.set_cons_succ]
  refine anyZ_take 17 30 (v := .bool false) rfl (by kernel_rfl) (fun _ _ _ h => h.elim) (Or.inl ⟨by rfl, fun wx hx => by obtain ⟨⟨p0, p1⟩, ⟨p2, p3⟩, p4, p5, p6⟩ := hx; clear HS5; go_simp⟩) HS5 ?_
  try simp only [Act.put, List.getElem_toArray, List.getElem_cons_zero, List.getElem_cons_succ, List.setIfInBounds_toArray, List.set_cons_zero, List.set_cons_succ]
  refine anyZ_done (by kernel_rfl) ?_ _
  dsimp only [Only, Exit.then]
  have HQ1 := hide (HR1.out.upto hbF)
  have HQ2 := hide (HR2.out.upto hbF)
  have HBY5 := hide (bt HBW.out (bt HbY2.out hbF))
  clear HS2 HS3 HS4 HS5 row3 row3b row4 hbY3 hbY3' hbY4 hbY5 hbF HP12 HD13 HR1 HR2 HK HbY2 HBW HLp
  go_wp2_with fail
  go_loopw [15] (fun d wr => ∃ i : Nat, d = .int .i64 (i : Nat) ∧ i ≤ n1 ∧ Below Y5.heap.size Y5 wr) (fun d _ => n1 - (intOf d).toNat)
  case atStart => exact ⟨0, rfl, Nat.zero_le _, Below.refl _ _⟩
  case round =>
    obtain ⟨i, rfl, hi, hbl⟩ := hrel
    by_cases hlt : i < n1
    · have hli : ((i : Nat) : Int) < (n1 : Nat) := by omega
      have hiI : (0 : Int) ≤ (i : Nat) ∧ ((i : Nat) : Int) ≤ 8 := by omega
      have hlt' : i < Lr.length := by rw [Hn1.out]; exact hlt
      obtain ⟨g1, hg1, -, p0, p1, p2, p3⟩ := (HQ1.out.upto hbl).atq (List.getElem?_eq_getElem hlt')
      obtain ⟨g2, hg2, -, p4, p5, p6, p7⟩ := (HQ2.out.upto hbl).atq (List.getElem?_eq_getElem hlt')
      subst hg1
      subst hg2
      obtain ⟨t, ht⟩ : ∃ t, Lr[i] = t := ⟨_, rfl⟩
      rw [ht] at p0 p1 p2 p3 p4 p5 p6 p7
      obtain ⟨tx, ty, ta, tb⟩ := t
      simp only at p0 p1 p2 p3 p4 p5 p6 p7
      have HS : (fun wx : World => (wx.cell? ⟨g1, i * 4, none⟩ = some (.int .i64 tx) ∧ wx.cell? ⟨g1, i * 4 + 1, none⟩ = some (.int .i64 ty) ∧ wx.cell? ⟨g1, i * 4 + 2, none⟩ = some (.int .i64 ta) ∧ wx.cell? ⟨g1, i * 4 + 3, none⟩ = some (.int .i64 tb)) ∧ wx.cell? ⟨g2, i * 4, none⟩ = some (.int .i64 tx) ∧ wx.cell? ⟨g2, i * 4 + 1, none⟩ = some (.int .i64 ty) ∧ wx.cell? ⟨g2, i * 4 + 2, none⟩ = some (.int .i64 ta) ∧ wx.cell? ⟨g2, i * 4 + 3, none⟩ = some (.int .i64 tb)) wr.drew := ⟨⟨p0, p1, p2, p3⟩, p4, p5, p6, p7⟩
      have hne := neq48 tx ty ta tb
      have Hbl := hide hbl
      clear p0 p1 p2 p3 p4 p5 p6 p7 ht hbl hlt'
      go_wp2_with fail
      refine wp_only ?_
      refine wp_region_z (fun wx : World => (wx.cell? ⟨g1, i * 4, none⟩ = some (.int .i64 tx) ∧ wx.cell? ⟨g1, i * 4 + 1, none⟩ = some (.int .i64 ty) ∧ wx.cell? ⟨g1, i * 4 + 2, none⟩ = some (.int .i64 ta) ∧ wx.cell? ⟨g1, i * 4 + 3, none⟩ = some (.int .i64 tb)) ∧ wx.cell? ⟨g2, i * 4, none⟩ = some (.int .i64 tx) ∧ wx.cell? ⟨g2, i * 4 + 1, none⟩ = some (.int .i64 ty) ∧ wx.cell? ⟨g2, i * 4 + 2, none⟩ = some (.int .i64 ta) ∧ wx.cell? ⟨g2, i * 4 + 3, none⟩ = some (.int .i64 tb)) [] (by kernel_rfl) ?_
      refine anyZ_take 0 30 (v := .slice (some ⟨g1, 0, none⟩) n1 c1) rfl (by kernel_rfl) (fun _ _ _ h => h.elim) (Or.inl ⟨by rfl, fun wx hx => by obtain ⟨⟨p0, p1, p2, p3⟩, p4, p5, p6, p7⟩ := hx; clear HS; go_simp⟩) HS ?_
      try simp only [Act.put, List.getElem_toArray, List.getElem_cons_zero, List.getElem_cons_succ, List.setIfInBounds_toArray, List.set_cons_zero, List.set_cons_succ]
      refine anyZ_take 1 30 (v := .int .i64 (i : Nat)) rfl (by kernel_rfl) (fun _ _ _ h => h.elim) (Or.inl ⟨by rfl, fun wx hx => by obtain ⟨⟨p0, p1, p2, p3⟩, p4, p5, p6, p7⟩ := hx; clear HS; go_simp⟩) HS ?_
      try simp only [Act.put, List.getElem_toArray, List.getElem_cons_zero, List.getElem_cons_succ, List.setIfInBounds_toArray, List.set_cons_zero, List.set_cons_succ]
      refine anyZ_take 2 30 (v := .pointer (some ⟨g1, i * 4, none⟩)) rfl (by kernel_rfl) (fun _ _ _ h => h.elim) (Or.inl ⟨by rfl, fun wx hx => by obtain ⟨⟨p0, p1, p2, p3⟩, p4, p5, p6, p7⟩ := hx; clear HS; go_simp⟩) HS ?_
      try simp only [Act.put, List.getElem_toArray, List.getElem_cons_zero, List.getElem_cons_succ, List.setIfInBounds_toArray, List.set_cons_zero, List.set_cons_succ]
      refine anyZ_take 3 30 (v := rct tx ty ta tb) rfl (by kernel_rfl) (fun _ _ _ h => h.elim) (Or.inl ⟨by rfl, fun wx hx => by obtain ⟨⟨p0, p1, p2, p3⟩, p4, p5, p6, p7⟩ := hx; clear HS; go_simp⟩) HS ?_
      try simp only [Act.put, List.getElem_toArray, List.getElem_cons_zero, List.getElem_cons_succ, List.setIfInBounds_toArray, List.set_cons_zero, List.set_cons_succ]
      refine anyZ_take 4 30 (v := .slice (some ⟨g2, 0, none⟩) n1 c2) rfl (by kernel_rfl) (fun _ _ _ h => h.elim) (Or.inl ⟨by rfl, fun wx hx => by obtain ⟨⟨p0, p1, p2, p3⟩, p4, p5, p6, p7⟩ := hx; clear HS; go_simp⟩) HS ?_
      try simp only [Act.put, List.getElem_toArray, List.getElem_cons_zero, List.getElem_cons_succ, List.setIfInBounds_toArray, List.set_cons_zero, List.set_cons_succ]
      refine anyZ_take 5 30 (v := .int .i64 (i : Nat)) rfl (by kernel_rfl) (fun _ _ _ h => h.elim) (Or.inl ⟨by rfl, fun wx hx => by obtain ⟨⟨p0, p1, p2, p3⟩, p4, p5, p6, p7⟩ := hx; clear HS; go_simp⟩) HS ?_
      try simp only [Act.put, List.getElem_toArray, List.getElem_cons_zero, List.getElem_cons_succ, List.setIfInBounds_toArray, List.set_cons_zero, List.set_cons_succ]
      refine anyZ_take 6 30 (v := .pointer (some ⟨g2, i * 4, none⟩)) rfl (by kernel_rfl) (fun _ _ _ h => h.elim) (Or.inl ⟨by rfl, fun wx hx => by obtain ⟨⟨p0, p1, p2, p3⟩, p4, p5, p6, p7⟩ := hx; clear HS; go_simp⟩) HS ?_
      try simp only [Act.put, List.getElem_toArray, List.getElem_cons_zero, List.getElem_cons_succ, List.setIfInBounds_toArray, List.set_cons_zero, List.set_cons_succ]
      refine anyZ_take 7 30 (v := rct tx ty ta tb) rfl (by kernel_rfl) (fun _ _ _ h => h.elim) (Or.inl ⟨by rfl, fun wx hx => by obtain ⟨⟨p0, p1, p2, p3⟩, p4, p5, p6, p7⟩ := hx; clear HS; go_simp⟩) HS ?_
      try simp only [Act.put, List.getElem_toArray, List.getElem_cons_zero, List.getElem_cons_succ, List.setIfInBounds_toArray, List.set_cons_zero, List.set_cons_succ]
      refine anyZ_take 8 30 (v := .bool false) rfl (by kernel_rfl) (fun _ _ _ h => h.elim) (Or.inl ⟨by rfl, fun wx hx => by obtain ⟨⟨p0, p1, p2, p3⟩, p4, p5, p6, p7⟩ := hx; clear HS; go_simp⟩) HS ?_
      try simp only [Act.put, List.getElem_toArray, List.getElem_cons_zero, List.getElem_cons_succ, List.setIfInBounds_toArray, List.set_cons_zero, List.set_cons_succ]
      refine anyZ_done (by kernel_rfl) ?_ _
      dsimp only [Only, Exit.then]
      have HE : Hid (∃ i' : Nat, (Value.int .i64 (((i : Nat) : Int) + 1)) = .int .i64 (i' : Nat) ∧ i' ≤ n1 ∧ Below Y5.heap.size Y5 wr.drew) := hide ⟨i + 1, by push_cast; rfl, by omega, Below.drew Hbl.out⟩
      clear HS hne Hbl
      go_wp2_with fail
      go_roundw
      case rel => exact HE.out
      case measure => simp [intOf]; omega
    · have hle : ¬ ((i : Nat) : Int) < (n1 : Nat) := by omega
      have Hbl := hide (bt HBY5.out hbl)
      clear hbl
      go_wp2_with fail
      refine (HAw.out _ Hbl.out).mono ?_
      rintro e w9 ⟨rfl, hb9⟩
      have HE := hide (bt Hbl.out hb9)
      clear hb9
      go_wp2_with fail
      go_ret
      exact ⟨rfl, HE.out⟩
end Go.Proofs.YtkjogcnoaipniaaGreatDoor
namespace Go.Proofs.YtkjogcnoaipniaaGreatDoor
open Go.RowKit Go.Shelf
set_option linter.unusedVariables false
set_option linter.unusedSimpArgs false
set_option maxHeartbeats 4000000 in
theorem betw_bad (W H : Int) (tv bv : Value) (tl : List Nat) (L : List Bd) (c s k0 k1 k2 : Int) (w : World) (hv : TlR w tv tl) (hb : ∀ x ∈ tl, x < 256) (hl : BdR w bv L) (hg : Grnd w) (ho : Offs w) (hc : chkC W H tl L = 1) :
    Calls Tryz.prog 3 #[mp W H tv bv, shv c s, .agg #[.int .i64 k0, .int .i64 k1, .int .i64 k2]] w fun e w' => e = .returned (.bool true) ∧ Below w.heap.size w w' := by
  obtain ⟨X, hX⟩ : ∃ X, ((w.alloc (.cells #[.int .i64 W, .int .i64 H, tv, bv] 25)).alloc (.cells #[.int .i64 c, .int .i64 s] 27)).alloc (.cells #[.int .i64 k0, .int .i64 k1, .int .i64 k2] 28) = X := ⟨_, rfl⟩
  have B0 : Below w.heap.size w X := hX ▸ bt (box2 _ _ _) (box1 _ _)
  have M0 : MB X w.heap.size W H tv bv := by rw [← hX]; exact ((MB.new w W H tv bv).kept (box1 _ _)).kept (box1 _ _)
  have HBo := hide (both_no W H _ _ tl L X (hv.kept B0) hb (hl.kept B0) hc)
  have HAw : Hid (∀ wx, Below w.heap.size w wx → Calls Tryz.prog 7 #[] wx fun e w' => e = .returned (.bool true) ∧ Below wx.heap.size wx w') := hide fun wx q => awake_is wx (hg.kept q) (ho.kept q)
  have HX := hide hX
  have HB0 := hide B0
  obtain ⟨sa1, cap1, rfl, -⟩ := hv
  obtain ⟨sa2, cap2, rfl, -⟩ := hl
  obtain ⟨m0, m1, m2, m3⟩ := M0.c
  clear hX B0 hb hg ho hc M0
  go_enter Tryz.func3, Tryz.ntmps3
  go_wp2_with fail
  rw [HX.out]
  refine HBo.out.mono ?_
  rintro e w1 ⟨rfl, hb1⟩
  have HB1 := hide hb1
  clear m0 m1 m2 m3 HBo hb1
  go_wp2_with fail
  refine (HAw.out _ (bt HB0.out HB1.out)).mono ?_
  rintro e w9 ⟨rfl, hb9⟩
  have HE := hide (bt (bt HB0.out HB1.out) hb9)
  clear hb9
  go_wp2_with fail
  go_ret
  exact ⟨rfl, HE.out⟩
end Go.Proofs.YtkjogcnoaipniaaGreatDoor
