/-
  The edges from a node of a cluster to the others, by ways that do not leave it. What cluster.Around hands back goes through: a cluster's neighbours to the four sides. Of each node of a cluster the edges that lead to its neighbours.
-/
import Derived.Test.YthiafmlgialbnaaGreatDoorPrt
import Derived.Test.YthiafmlgialbnaaGreatDoorNestT
import Derived.Test.YthiafmlgialbnaaGreatDoorBord
import Derived.Test.YthiafmlgialbnaaGreatDoorAroundKeep
import Derived.Test.YthiafmlgialbnaaGreatDoorSown
set_option linter.unusedSimpArgs false
namespace Go.Proofs.YthiafmlgialbnaaGreatDoor
open Go.RowKit Go.Shelf
set_option linter.unusedVariables false
theorem run_c90 {ev : Operand → Value} {o : Oper} {w : World} {ar : Array Operand} {ts : Array TypeId} {vs : Array Value} (hop : o.op = .call { callee := .value (.func 90), args := ar, argTypes := ts }) (hf : ev (.func 90) = .func (.func 90) #[] #[]) (hvs : ar.map ev = vs) : (execOp ev o).run Tryz.prog w = .ok (.enter 90 vs) w := by
  unfold execOp
  simp only [hop, resolve, hf, hvs]
  go_simp
theorem run_c91 {ev : Operand → Value} {o : Oper} {w : World} {ar : Array Operand} {ts : Array TypeId} {vs : Array Value} (hop : o.op = .call { callee := .value (.func 91), args := ar, argTypes := ts }) (hf : ev (.func 91) = .func (.func 91) #[] #[]) (hvs : ar.map ev = vs) : (execOp ev o).run Tryz.prog w = .ok (.enter 91 vs) w := by
  unfold execOp
  simp only [hop, resolve, hf, hvs]
  go_simp
theorem by_way2 {F G : World → Nat → Prop} {C : Prop} (h1 : (∀ V q, F V q → G V q) → C) (h2 : ∀ V q, F V q → G V q) : C := h1 h2
theorem run_alloc49 {ev : Operand → Value} {o : Oper} {w : World} (ho : o.op = .alloc 49) : (execOp ev o).run Tryz.prog w = .ok (.value (ptr w.heap.size)) (w.alloc (.cells #[.int .i64 0, .int .i64 0, .int .i64 0, .int .i64 0] 49)) := by
  unfold execOp
  simp only [ho]
  go_simp
theorem run_put49 {ev : Operand → Value} {o : Oper} {w : World} {x y : Operand} {k : Nat} {a b d e p q r t : Int} (ho : o.op = .store 49 x y) (hx : ev x = ptr k) (hy : ev y = rct p q r t) (hF : Four w k a b d e) :
    (execOp ev o).run Tryz.prog w = .ok .skip ((((w.setCell ⟨k, 0, none⟩ (.int .i64 p)).setCell ⟨k, 1, none⟩ (.int .i64 q)).setCell ⟨k, 2, none⟩ (.int .i64 r)).setCell ⟨k, 3, none⟩ (.int .i64 t)) := by
  obtain ⟨⟨f0, f1, f2, f3⟩, ⟨g0, g1, g2, g3⟩, hl⟩ := hF
  unfold execOp
  rw [ho]
  simp only [hx, hy]
  go_simp
/-- The edges within a cluster, from the table of how far all its cells are. -/
def insF (C : List Int) (ix iy iw : Int) (q : Int × Int) : List E3 := match C[ij ix iy iw q.1 q.2]? with
  | some m => if 0 < m then [⟨q.1, q.2, m⟩] else []
  | none => []
def insL (C : List Int) (ix iy iw : Int) (l : List (Int × Int)) : List E3 := l.flatMap (insF C ix iy iw)
theorem insL_len (C : List Int) (ix iy iw : Int) (l : List (Int × Int)) : (insL C ix iy iw l).length ≤ l.length := by
  unfold insL
  induction l with
  | nil => simp
  | cons q r ih =>
    rw [List.flatMap_cons, List.length_append, List.length_cons]
    have : (insF C ix iy iw q).length ≤ 1 := by
      unfold insF
      split
      · split <;> simp
      · simp
    omega
theorem insL_take {C : List Int} {ix iy iw : Int} {l : List (Int × Int)} {i : Nat} {q : Int × Int} (h : l[i]? = some q) : insL C ix iy iw (l.take (i + 1)) = insL C ix iy iw (l.take i) ++ insF C ix iy iw q := by
  unfold insL
  rw [List.take_add_one, h, List.flatMap_append]
  simp
theorem idx13 {ix iy iw ih x y : Int} (hi : 0 ≤ ix ∧ 0 ≤ iy ∧ ix + iw ≤ 128 ∧ iy + ih ≤ 128) (hq : inB ix iy iw ih (x, y)) : ∃ zy z z' : Int, IntKind.i64.wrap (y - iy) = zy ∧ IntKind.i64.wrap (zy * iw) = z ∧ IntKind.i64.wrap (z + x) = z' ∧ IntKind.i64.wrap (z' - ix) = ((ij ix iy iw x y : Nat) : Int) := by
  obtain ⟨⟨h1, h2⟩, h3, h4⟩ := hq
  simp only at h1 h2 h3 h4
  have hm : 0 ≤ (y - iy) * iw ∧ (y - iy) * iw ≤ 128 * 128 := ⟨Int.mul_nonneg h3 (by omega), Int.mul_le_mul (by omega) (by omega) (by omega) (by omega)⟩
  refine ⟨y - iy, (y - iy) * iw, (y - iy) * iw + x, IntWalk.i64_in _ (by omega), IntWalk.i64_in _ (by omega), IntWalk.i64_in _ (by omega), ?_⟩
  rw [IntWalk.i64_in _ (by omega)]
  unfold ij
  omega
/-- A cluster's rectangle lies in the world. -/
theorem cl_rect {W H kx ky : Int} (hW : 1 ≤ W ∧ W ≤ 128) (hH : 1 ≤ H ∧ H ≤ 128) (hr : rB W H kx ky = true) : (0 ≤ kx * 8 ∧ 0 ≤ ky * 8 ∧ kx * 8 + rS W kx ≤ W ∧ ky * 8 + rS H ky ≤ H) ∧ (1 ≤ rS W kx ∧ rS W kx ≤ 8) ∧ 1 ≤ rS H ky ∧ rS H ky ≤ 8 := by
  obtain ⟨h1, h2⟩ := (rB_iff hW hH).1 hr
  unfold rS
  omega
theorem wi_cl {W H kx ky : Int} (hW : 1 ≤ W ∧ W ≤ 128) (hH : 1 ≤ H ∧ H ≤ 128) (hr : rB W H kx ky = true) : wi (kx * 8) (ky * 8) (rS W kx) (rS H ky) 0 0 W H = true := by
  obtain ⟨h1, h2, h3⟩ := cl_rect hW hH hr
  unfold wi
  rw [Bool.and_eq_true, Bool.and_eq_true]
  exact ⟨(may_iff _ _ _ _).2 (by omega), (has_iff _ _ _ _ _ _).2 ⟨(may_iff _ _ _ _).2 (by omega), by omega⟩, (has_iff _ _ _ _ _ _).2 ⟨(may_iff _ _ _ _).2 (by omega), by omega⟩⟩
theorem RC_at {w : World} {a : Option Addr} {m c : Nat} {L : List (Int × Int)} (h : RC w (.slice a m c) L) {i : Nat} {q : Int × Int} (hi : L[i]? = some q) :
    ∃ g, a = some ⟨g, 0, none⟩ ∧ g < w.heap.size ∧ w.cell? ⟨g, i * 2, none⟩ = some (.int .i64 q.1) ∧ w.cell? ⟨g, i * 2 + 1, none⟩ = some (.int .i64 q.2) := by
  obtain ⟨a', cap, e, hle, hc⟩ := Rw.form C_len h
  obtain ⟨g, rfl, hg, hcell⟩ := hc i q hi
  cases e
  exact ⟨g, rfl, hg, hcell 0 _ rfl, hcell 1 _ rfl⟩
set_option maxRecDepth 100000 in
set_option maxHeartbeats 4000000 in
theorem inside_is {w : World} {gp p : Nat} {c s ep : Int} {wb eb : Nat} {W H : Int} {tl : List Nat} {f : Int → Int → Option Int} (hG : Gp w gp p c s ep wb eb) (hw : Wl w p W H tl f) (hg : Grnd w) (ho : Offs w) (kx ky fx fy : Int) (hr : rB W H kx ky = true)
    (hf : has (kx * 8) (ky * 8) (rS W kx) (rS H ky) fx fy = true) {na : Option Addr} {nn nc : Nat} {NL : List (Int × Int)} (hN : RC w (.slice na nn nc) NL) (hNi : ∀ q ∈ NL, inB (kx * 8) (ky * 8) (rS W kx) (rS H ky) q) (hlen : NL.length ≤ 100) :
    Calls Tryz.prog 59 #[ptr gp, cel kx ky, cel fx fy, .slice na nn nc] w fun e w' => ∃ lv C, e = .returned lv ∧ Tbl W H tl f c s (kx * 8) (ky * 8) (rS W kx) (rS H ky) (fx, fy) C ∧ RE w' lv (insL C (kx * 8) (ky * 8) (rS W kx) NL) ∧ Below w.heap.size w w' ∧ ∀ g, lv.ownBlock = some g → w.heap.size ≤ g := by
  obtain ⟨hW, hH⟩ := hw.sides
  obtain ⟨hi, hi2, hi3⟩ := cl_rect hW hH hr
  have hwi := wi_cl hW hH hr
  have hnn : nn = NL.length := by
    obtain ⟨a', c', e⟩ := slice_C hN
    cases e; rfl
  subst hnn
  obtain ⟨X, hX⟩ : ∃ X, (w.alloc (.cells #[.int .i64 kx, .int .i64 ky] 47)).alloc (.cells #[.int .i64 fx, .int .i64 fy] 47) = X := ⟨_, rfl⟩
  have B0 : Below w.heap.size w X := hX ▸ box2 _ _ _
  have T0 : Two X w.heap.size kx ky := by rw [← hX]; exact (Two.newAt rfl).alloc
  have T1 : Two X (w.heap.size + 1) fx fy := by rw [← hX]; exact Two.newAt (by simp)
  have zX : X.heap.size = w.heap.size + 2 := by rw [← hX]; simp
  have HRe : Hid (∀ wx, Below X.heap.size X wx → Calls Tryz.prog 90 #[ptr p, cel kx ky] wx fun e w' => e = .returned (.tuple #[rct (kx * 8) (ky * 8) (rS W kx) (rS H ky), .bool true]) ∧ Below wx.heap.size wx w') := hide fun wx q => by
    have := rect_any kx ky (hw.kept (bt B0 q))
    rwa [rV, hr, if_pos rfl] at this
  have HCo : Hid (∀ wx, Below X.heap.size X wx → Calls Tryz.prog 91 #[ptr p, shv c s, cel fx fy, rct (kx * 8) (ky * 8) (rS W kx) (rS H ky)] wx (CostsEnd W H tl f c s (kx * 8) (ky * 8) (rS W kx) (rS H ky) fx fy wx)) := hide fun wx q =>
    pcosts_yes p W H tl f c s fx fy (kx * 8) (ky * 8) (rS W kx) (rS H ky) wx (hw.kept (bt B0 q)) (hg.kept (bt B0 q)) (ho.kept (bt B0 q)) hW.2 hH.2 hwi hf
  have HK : Hid (∀ wx, Below X.heap.size X wx → (wx.cell? ⟨gp, 0, none⟩ = some (ptr p) ∧ wx.cell? ⟨gp, 1, none⟩ = some (.int .i64 c) ∧ wx.cell? ⟨gp, 2, none⟩ = some (.int .i64 s)) ∧ (wx.cell? ⟨w.heap.size, 0, none⟩ = some (.int .i64 kx) ∧ wx.cell? ⟨w.heap.size, 1, none⟩ = some (.int .i64 ky)) ∧ wx.cell? ⟨w.heap.size + 1, 0, none⟩ = some (.int .i64 fx) ∧ wx.cell? ⟨w.heap.size + 1, 1, none⟩ = some (.int .i64 fy)) := hide fun wx q =>
    ⟨⟨(hG.upto (bt B0 q)).c0, (hG.upto (bt B0 q)).c1, (hG.upto (bt B0 q)).c2⟩, ⟨(T0.kept q).1.1, (T0.kept q).1.2⟩, (T1.kept q).1.1, (T1.kept q).1.2⟩
  have HN : Hid (∀ wx, Below X.heap.size X wx → RC wx (.slice na NL.length nc) NL) := hide fun wx q => hN.upto (bt B0 q)
  have HX := hide hX
  have HB := hide B0
  have Hnum := hide (And.intro hi (And.intro hi2 (And.intro hi3 (And.intro hW hH))))
  have HNi := hide hNi
  obtain ⟨ix, hix⟩ : ∃ ix, kx * 8 = ix := ⟨_, rfl⟩
  obtain ⟨iy, hiy⟩ : ∃ iy, ky * 8 = iy := ⟨_, rfl⟩
  obtain ⟨iw, hiw⟩ : ∃ iw, rS W kx = iw := ⟨_, rfl⟩
  obtain ⟨ih, hih⟩ : ∃ ih, rS H ky = ih := ⟨_, rfl⟩
  rw [hix, hiy, hiw, hih] at HRe HCo Hnum HNi ⊢
  have hd : Below X.heap.size X X.drew := ⟨rfl, rfl, rfl, Nat.le_refl _, fun _ _ => rfl⟩
  have HS := HK.out X.drew hd
  have Hd := hide hd
  clear hX B0 T0 T1 hG hw hg ho hr hf hN hNi hi hi2 hi3 hwi hW hH hix hiy hiw hih hd
  go_enter Tryz.func59, Tryz.ntmps59
  go_wp2_with (rw [HX.out])
  refine wp_only ?_
  refine wp_region_z (fun wx : World => (wx.cell? ⟨gp, 0, none⟩ = some (ptr p) ∧ wx.cell? ⟨gp, 1, none⟩ = some (.int .i64 c) ∧ wx.cell? ⟨gp, 2, none⟩ = some (.int .i64 s)) ∧ (wx.cell? ⟨w.heap.size, 0, none⟩ = some (.int .i64 kx) ∧ wx.cell? ⟨w.heap.size, 1, none⟩ = some (.int .i64 ky)) ∧ wx.cell? ⟨w.heap.size + 1, 0, none⟩ = some (.int .i64 fx) ∧ wx.cell? ⟨w.heap.size + 1, 1, none⟩ = some (.int .i64 fy)) [11] (by kernel_rfl) ?_
  refine anyZ_take 0 8 (v := ptr gp) rfl (by kernel_rfl) (fun _ _ _ h => h.elim) (Or.inl ⟨by rfl, fun wx hx => by obtain ⟨⟨x0, x1, x2⟩, ⟨x3, x4⟩, x5, x6⟩ := hx; clear HS; go_simp⟩) HS ?_
  try simp only [Act.put, List.getElem_toArray, List.getElem_cons_zero, List.getElem_cons_succ, List.setIfInBounds_toArray, List.set_cons_zero, List.set_cons_succ]
  refine anyZ_take 1 8 (v := ptr gp) rfl (by kernel_rfl) (fun _ _ _ h => h.elim) (Or.inl ⟨by rfl, fun wx hx => by obtain ⟨⟨x0, x1, x2⟩, ⟨x3, x4⟩, x5, x6⟩ := hx; clear HS; go_simp⟩) HS ?_
  try simp only [Act.put, List.getElem_toArray, List.getElem_cons_zero, List.getElem_cons_succ, List.setIfInBounds_toArray, List.set_cons_zero, List.set_cons_succ]
  refine anyZ_take 2 8 (v := .pointer (some ⟨gp, 0, none⟩)) rfl (by kernel_rfl) (fun _ _ _ h => h.elim) (Or.inl ⟨by rfl, fun wx hx => by obtain ⟨⟨x0, x1, x2⟩, ⟨x3, x4⟩, x5, x6⟩ := hx; clear HS; go_simp⟩) HS ?_
  try simp only [Act.put, List.getElem_toArray, List.getElem_cons_zero, List.getElem_cons_succ, List.setIfInBounds_toArray, List.set_cons_zero, List.set_cons_succ]
  refine anyZ_take 3 8 (v := ptr p) rfl (by kernel_rfl) (fun _ _ _ h => h.elim) (Or.inl ⟨by rfl, fun wx hx => by obtain ⟨⟨x0, x1, x2⟩, ⟨x3, x4⟩, x5, x6⟩ := hx; clear HS; go_simp⟩) HS ?_
  try simp only [Act.put, List.getElem_toArray, List.getElem_cons_zero, List.getElem_cons_succ, List.setIfInBounds_toArray, List.set_cons_zero, List.set_cons_succ]
  refine anyZ_take 4 8 (v := cel kx ky) rfl (by kernel_rfl) (fun _ _ _ h => h.elim) (Or.inl ⟨by rfl, fun wx hx => by obtain ⟨⟨x0, x1, x2⟩, ⟨x3, x4⟩, x5, x6⟩ := hx; clear HS; go_simp⟩) HS ?_
  try simp only [Act.put, List.getElem_toArray, List.getElem_cons_zero, List.getElem_cons_succ, List.setIfInBounds_toArray, List.set_cons_zero, List.set_cons_succ]
  refine by_way2 (F := fun V q => Below X.heap.size X V ∧ Four V q 0 0 0 0 ∧ X.heap.size ≤ q) (G := ?G) ?ways ?then2
  case ways =>
    intro HG
    refine anyZ_ready (rs := [5, 9]) (by kernel_rfl) (by simp) ?_
    refine readyZ.call rfl rfl (run_c90 (by rfl) (by rfl) (by simp only [List.map_toArray, List.map_cons, List.map_nil]; rfl)) (HRe.out _ Hd.out) ?_ ?_
    · rintro e Y1 ⟨rfl, hY1⟩
      have b1 : Below X.heap.size X Y1 := bt Hd.out hY1
      have HS1 := HK.out Y1 b1
      refine ⟨_, rfl, fun _ => HS1, ?_⟩
      try simp only [Act.put, List.getElem_toArray, List.getElem_cons_zero, List.getElem_cons_succ, List.setIfInBounds_toArray, List.set_cons_zero, List.set_cons_succ]
      refine anyZ_take 6 8 (v := .tuple #[rct ix iy iw ih, .bool true]) rfl (by kernel_rfl) (fun _ _ _ h => h.elim) (Or.inl ⟨by rfl, fun wx hx => by obtain ⟨⟨x0, x1, x2⟩, ⟨x3, x4⟩, x5, x6⟩ := hx; clear HS1; go_simp⟩) HS1 ?_
      try simp only [Act.put, List.getElem_toArray, List.getElem_cons_zero, List.getElem_cons_succ, List.setIfInBounds_toArray, List.set_cons_zero, List.set_cons_succ]
      refine anyZ_take 7 8 (v := rct ix iy iw ih) rfl (by kernel_rfl) (fun _ _ _ h => h.elim) (Or.inl ⟨by rfl, fun wx hx => by obtain ⟨⟨x0, x1, x2⟩, ⟨x3, x4⟩, x5, x6⟩ := hx; clear HS1; go_simp⟩) HS1 ?_
      try simp only [Act.put, List.getElem_toArray, List.getElem_cons_zero, List.getElem_cons_succ, List.setIfInBounds_toArray, List.set_cons_zero, List.set_cons_succ]
      refine anyZ_take 8 8 (v := .bool true) rfl (by kernel_rfl) (fun _ _ _ h => h.elim) (Or.inl ⟨by rfl, fun wx hx => by obtain ⟨⟨x0, x1, x2⟩, ⟨x3, x4⟩, x5, x6⟩ := hx; clear HS1; go_simp⟩) HS1 ?_
      try simp only [Act.put, List.getElem_toArray, List.getElem_cons_zero, List.getElem_cons_succ, List.setIfInBounds_toArray, List.set_cons_zero, List.set_cons_succ]
      refine anyZ_ready (rs := [9]) (by kernel_rfl) (by simp) ?_
      refine readyZ.cons rfl rfl (run_alloc49 (by rfl)) (fun _ => HK.out _ (bt b1 (box1 _ _))) ?_ readyZ.nil
      try simp only [Act.put, List.getElem_toArray, List.getElem_cons_zero, List.getElem_cons_succ, List.setIfInBounds_toArray, List.set_cons_zero, List.set_cons_succ]
      have hF : Below X.heap.size X (Y1.alloc (.cells #[.int .i64 0, .int .i64 0, .int .i64 0, .int .i64 0] 49)) ∧ Four (Y1.alloc (.cells #[.int .i64 0, .int .i64 0, .int .i64 0, .int .i64 0] 49)) Y1.heap.size 0 0 0 0 ∧ X.heap.size ≤ Y1.heap.size := ⟨bt b1 (box1 _ _), Four.new12 _ _ _ _ _ _, b1.size⟩
      generalize Y1.alloc (.cells #[.int .i64 0, .int .i64 0, .int .i64 0, .int .i64 0] 49) = V at hF ⊢
      generalize Y1.heap.size = q at hF ⊢
      exact HG V q hF
    · refine readyZ.cons rfl rfl (run_alloc49 (by rfl)) (fun _ => HK.out _ (bt Hd.out (box1 _ _))) ?_ readyZ.nil
      try simp only [Act.put, List.getElem_toArray, List.getElem_cons_zero, List.getElem_cons_succ, List.setIfInBounds_toArray, List.set_cons_zero, List.set_cons_succ]
      have b2 : Below X.heap.size X (X.drew.alloc (.cells #[.int .i64 0, .int .i64 0, .int .i64 0, .int .i64 0] 49)) := bt Hd.out (box1 _ _)
      have F2 : Four (X.drew.alloc (.cells #[.int .i64 0, .int .i64 0, .int .i64 0, .int .i64 0] 49)) X.drew.heap.size 0 0 0 0 := Four.new12 _ _ _ _ _ _
      have hq : X.heap.size ≤ X.drew.heap.size := Nat.le_refl _
      generalize X.drew.alloc (.cells #[.int .i64 0, .int .i64 0, .int .i64 0, .int .i64 0] 49) = V0 at b2 F2 ⊢
      generalize X.drew.heap.size = q at F2 hq ⊢
      refine anyZ_ready (rs := [5]) (by kernel_rfl) (by simp) ?_
      refine readyZ.call rfl rfl (run_c90 (by rfl) (by rfl) (by simp only [List.map_toArray, List.map_cons, List.map_nil]; rfl)) (HRe.out _ b2) ?_ readyZ.nil
      rintro e V ⟨rfl, hV⟩
      have b3 : Below X.heap.size X V := bt b2 hV
      have HS2 := HK.out V b3
      refine ⟨_, rfl, fun _ => HS2, ?_⟩
      try simp only [Act.put, List.getElem_toArray, List.getElem_cons_zero, List.getElem_cons_succ, List.setIfInBounds_toArray, List.set_cons_zero, List.set_cons_succ]
      refine anyZ_take 6 8 (v := .tuple #[rct ix iy iw ih, .bool true]) rfl (by kernel_rfl) (fun _ _ _ h => h.elim) (Or.inl ⟨by rfl, fun wx hx => by obtain ⟨⟨x0, x1, x2⟩, ⟨x3, x4⟩, x5, x6⟩ := hx; clear HS2; go_simp⟩) HS2 ?_
      try simp only [Act.put, List.getElem_toArray, List.getElem_cons_zero, List.getElem_cons_succ, List.setIfInBounds_toArray, List.set_cons_zero, List.set_cons_succ]
      refine anyZ_take 7 8 (v := rct ix iy iw ih) rfl (by kernel_rfl) (fun _ _ _ h => h.elim) (Or.inl ⟨by rfl, fun wx hx => by obtain ⟨⟨x0, x1, x2⟩, ⟨x3, x4⟩, x5, x6⟩ := hx; clear HS2; go_simp⟩) HS2 ?_
      try simp only [Act.put, List.getElem_toArray, List.getElem_cons_zero, List.getElem_cons_succ, List.setIfInBounds_toArray, List.set_cons_zero, List.set_cons_succ]
      refine anyZ_take 8 8 (v := .bool true) rfl (by kernel_rfl) (fun _ _ _ h => h.elim) (Or.inl ⟨by rfl, fun wx hx => by obtain ⟨⟨x0, x1, x2⟩, ⟨x3, x4⟩, x5, x6⟩ := hx; clear HS2; go_simp⟩) HS2 ?_
      try simp only [Act.put, List.getElem_toArray, List.getElem_cons_zero, List.getElem_cons_succ, List.setIfInBounds_toArray, List.set_cons_zero, List.set_cons_succ]
      exact HG V q ⟨b3, F2.kept hV, hq⟩
  case then2 =>
    rintro V q ⟨bV, FV, hq⟩
    have HS3 := HK.out V bV
    obtain ⟨Z, hZ⟩ : ∃ Z, (((V.setCell ⟨q, 0, none⟩ (.int .i64 ix)).setCell ⟨q, 1, none⟩ (.int .i64 iy)).setCell ⟨q, 2, none⟩ (.int .i64 iw)).setCell ⟨q, 3, none⟩ (.int .i64 ih) = Z := ⟨_, rfl⟩
    have FZ : Four Z q ix iy iw ih := hZ ▸ FV.set ix iy iw ih
    have TZ : Turns (fun j => j = q) V Z := hZ ▸ turns_four V q _ _ _ _
    have bZ : Below X.heap.size X Z := bV.trans (TZ.below (fun k e => by omega) bV.size)
    have HS4 := HK.out Z bZ
    refine anyZ_ready (rs := [10]) (by kernel_rfl) (by simp) ?_
    refine readyZ.skip rfl rfl (run_put49 (by rfl) (by rfl) (by rfl) FV) (fun _ => by rw [hZ]; exact HS4) ?_ readyZ.nil
    try simp only [Act.put, List.getElem_toArray, List.getElem_cons_zero, List.getElem_cons_succ, List.setIfInBounds_toArray, List.set_cons_zero, List.set_cons_succ]
    rw [hZ]
    refine anyZ_ready (rs := [11]) (by kernel_rfl) (by simp) ?_
    refine readyZ.cons rfl rfl (run_assign (v := .bool true) (by rfl) (by rfl)) (fun h => absurd (by decide) h) ?_ readyZ.nil
    try simp only [Act.put, List.getElem_toArray, List.getElem_cons_zero, List.getElem_cons_succ, List.setIfInBounds_toArray, List.set_cons_zero, List.set_cons_succ]
    refine anyZ_done (by kernel_rfl) ?_ _
    dsimp only [Only, Exit.then]
    have hd4 : Below Z.heap.size Z Z.drew := ⟨rfl, rfl, rfl, Nat.le_refl _, fun _ _ => rfl⟩
    have HCo2 := hide (HCo.out Z.drew (bt bZ hd4))
    obtain ⟨k1, -, k3⟩ := HK.out Z.drew (bt bZ hd4)
    obtain ⟨⟨z0, z1, z2, z3⟩, -, hqZ⟩ := id FZ
    have HS5 : (Z.drew.cell? ⟨gp, 0, none⟩ = some (ptr p) ∧ Z.drew.cell? ⟨gp, 1, none⟩ = some (.int .i64 c) ∧ Z.drew.cell? ⟨gp, 2, none⟩ = some (.int .i64 s)) ∧ (Z.drew.cell? ⟨w.heap.size + 1, 0, none⟩ = some (.int .i64 fx) ∧ Z.drew.cell? ⟨w.heap.size + 1, 1, none⟩ = some (.int .i64 fy)) ∧ Z.drew.cell? ⟨q, 0, none⟩ = some (.int .i64 ix) ∧ Z.drew.cell? ⟨q, 1, none⟩ = some (.int .i64 iy) ∧ Z.drew.cell? ⟨q, 2, none⟩ = some (.int .i64 iw) ∧ Z.drew.cell? ⟨q, 3, none⟩ = some (.int .i64 ih) := ⟨k1, k3, z0, z1, z2, z3⟩
    have HbZ := hide (And.intro bZ (And.intro FZ (And.intro hq hqZ)))
    clear HS HS3 HS4 bV FV TZ bZ FZ hZ k1 k3 z0 z1 z2 z3 hd4 HCo HRe hq hqZ
    go_wp2_with fail
    refine wp_only ?_
    refine wp_region_z (fun wx : World => (wx.cell? ⟨gp, 0, none⟩ = some (ptr p) ∧ wx.cell? ⟨gp, 1, none⟩ = some (.int .i64 c) ∧ wx.cell? ⟨gp, 2, none⟩ = some (.int .i64 s)) ∧ (wx.cell? ⟨w.heap.size + 1, 0, none⟩ = some (.int .i64 fx) ∧ wx.cell? ⟨w.heap.size + 1, 1, none⟩ = some (.int .i64 fy)) ∧ wx.cell? ⟨q, 0, none⟩ = some (.int .i64 ix) ∧ wx.cell? ⟨q, 1, none⟩ = some (.int .i64 iy) ∧ wx.cell? ⟨q, 2, none⟩ = some (.int .i64 iw) ∧ wx.cell? ⟨q, 3, none⟩ = some (.int .i64 ih)) [15] (by kernel_rfl) ?_
    refine anyZ_take 0 8 (v := ptr gp) rfl (by kernel_rfl) (fun _ _ _ h => h.elim) (Or.inl ⟨by rfl, fun wx hx => by obtain ⟨⟨x0, x1, x2⟩, ⟨x3, x4⟩, x5, x6, x7, x8⟩ := hx; clear HS5; go_simp⟩) HS5 ?_
    try simp only [Act.put, List.getElem_toArray, List.getElem_cons_zero, List.getElem_cons_succ, List.setIfInBounds_toArray, List.set_cons_zero, List.set_cons_succ]
    refine anyZ_take 1 8 (v := ptr gp) rfl (by kernel_rfl) (fun _ _ _ h => h.elim) (Or.inl ⟨by rfl, fun wx hx => by obtain ⟨⟨x0, x1, x2⟩, ⟨x3, x4⟩, x5, x6, x7, x8⟩ := hx; clear HS5; go_simp⟩) HS5 ?_
    try simp only [Act.put, List.getElem_toArray, List.getElem_cons_zero, List.getElem_cons_succ, List.setIfInBounds_toArray, List.set_cons_zero, List.set_cons_succ]
    refine anyZ_take 2 8 (v := .pointer (some ⟨gp, 0, none⟩)) rfl (by kernel_rfl) (fun _ _ _ h => h.elim) (Or.inl ⟨by rfl, fun wx hx => by obtain ⟨⟨x0, x1, x2⟩, ⟨x3, x4⟩, x5, x6, x7, x8⟩ := hx; clear HS5; go_simp⟩) HS5 ?_
    try simp only [Act.put, List.getElem_toArray, List.getElem_cons_zero, List.getElem_cons_succ, List.setIfInBounds_toArray, List.set_cons_zero, List.set_cons_succ]
    refine anyZ_take 3 8 (v := ptr p) rfl (by kernel_rfl) (fun _ _ _ h => h.elim) (Or.inl ⟨by rfl, fun wx hx => by obtain ⟨⟨x0, x1, x2⟩, ⟨x3, x4⟩, x5, x6, x7, x8⟩ := hx; clear HS5; go_simp⟩) HS5 ?_
    try simp only [Act.put, List.getElem_toArray, List.getElem_cons_zero, List.getElem_cons_succ, List.setIfInBounds_toArray, List.set_cons_zero, List.set_cons_succ]
    refine anyZ_take 4 8 (v := ptr gp) rfl (by kernel_rfl) (fun _ _ _ h => h.elim) (Or.inl ⟨by rfl, fun wx hx => by obtain ⟨⟨x0, x1, x2⟩, ⟨x3, x4⟩, x5, x6, x7, x8⟩ := hx; clear HS5; go_simp⟩) HS5 ?_
    try simp only [Act.put, List.getElem_toArray, List.getElem_cons_zero, List.getElem_cons_succ, List.setIfInBounds_toArray, List.set_cons_zero, List.set_cons_succ]
    refine anyZ_take 5 8 (v := ptr gp) rfl (by kernel_rfl) (fun _ _ _ h => h.elim) (Or.inl ⟨by rfl, fun wx hx => by obtain ⟨⟨x0, x1, x2⟩, ⟨x3, x4⟩, x5, x6, x7, x8⟩ := hx; clear HS5; go_simp⟩) HS5 ?_
    try simp only [Act.put, List.getElem_toArray, List.getElem_cons_zero, List.getElem_cons_succ, List.setIfInBounds_toArray, List.set_cons_zero, List.set_cons_succ]
    refine anyZ_take 6 8 (v := .pointer (some ⟨gp, 1, none⟩)) rfl (by kernel_rfl) (fun _ _ _ h => h.elim) (Or.inl ⟨by rfl, fun wx hx => by obtain ⟨⟨x0, x1, x2⟩, ⟨x3, x4⟩, x5, x6, x7, x8⟩ := hx; clear HS5; go_simp⟩) HS5 ?_
    try simp only [Act.put, List.getElem_toArray, List.getElem_cons_zero, List.getElem_cons_succ, List.setIfInBounds_toArray, List.set_cons_zero, List.set_cons_succ]
    refine anyZ_take 7 8 (v := shv c s) rfl (by kernel_rfl) (fun _ _ _ h => h.elim) (Or.inl ⟨by rfl, fun wx hx => by obtain ⟨⟨x0, x1, x2⟩, ⟨x3, x4⟩, x5, x6, x7, x8⟩ := hx; clear HS5; go_simp⟩) HS5 ?_
    try simp only [Act.put, List.getElem_toArray, List.getElem_cons_zero, List.getElem_cons_succ, List.setIfInBounds_toArray, List.set_cons_zero, List.set_cons_succ]
    refine anyZ_take 8 8 (v := cel fx fy) rfl (by kernel_rfl) (fun _ _ _ h => h.elim) (Or.inl ⟨by rfl, fun wx hx => by obtain ⟨⟨x0, x1, x2⟩, ⟨x3, x4⟩, x5, x6, x7, x8⟩ := hx; clear HS5; go_simp⟩) HS5 ?_
    try simp only [Act.put, List.getElem_toArray, List.getElem_cons_zero, List.getElem_cons_succ, List.setIfInBounds_toArray, List.set_cons_zero, List.set_cons_succ]
    refine anyZ_take 9 8 (v := rct ix iy iw ih) rfl (by kernel_rfl) (fun _ _ _ h => h.elim) (Or.inl ⟨by rfl, fun wx hx => by obtain ⟨⟨x0, x1, x2⟩, ⟨x3, x4⟩, x5, x6, x7, x8⟩ := hx; clear HS5; go_simp⟩) HS5 ?_
    try simp only [Act.put, List.getElem_toArray, List.getElem_cons_zero, List.getElem_cons_succ, List.setIfInBounds_toArray, List.set_cons_zero, List.set_cons_succ]
    refine anyZ_ready (rs := [10]) (by kernel_rfl) (by simp) ?_
    refine readyZ.call rfl rfl (run_c91 (by rfl) (by rfl) (by simp only [List.map_toArray, List.map_cons, List.map_nil]; rfl)) (HCo2.out) ?_ readyZ.nil
    rintro e w2 ⟨va, vn, vc, C, rfl, hb2, ⟨hct, hown2⟩, hT⟩
    have bw2 : Below X.heap.size X w2 := bt HbZ.out.1 ⟨hb2.os, hb2.tape, hb2.output, hb2.size, hb2.block⟩
    have F2 : Four w2 q ix iy iw ih := HbZ.out.2.1.kept ⟨hb2.os, hb2.tape, hb2.output, hb2.size, hb2.block⟩
    obtain ⟨j1, -, j3⟩ := HK.out w2 bw2
    obtain ⟨⟨z0, z1, z2, z3⟩, -, hqZ⟩ := id F2
    have HS6 : (w2.cell? ⟨gp, 0, none⟩ = some (ptr p) ∧ w2.cell? ⟨gp, 1, none⟩ = some (.int .i64 c) ∧ w2.cell? ⟨gp, 2, none⟩ = some (.int .i64 s)) ∧ (w2.cell? ⟨w.heap.size + 1, 0, none⟩ = some (.int .i64 fx) ∧ w2.cell? ⟨w.heap.size + 1, 1, none⟩ = some (.int .i64 fy)) ∧ w2.cell? ⟨q, 0, none⟩ = some (.int .i64 ix) ∧ w2.cell? ⟨q, 1, none⟩ = some (.int .i64 iy) ∧ w2.cell? ⟨q, 2, none⟩ = some (.int .i64 iw) ∧ w2.cell? ⟨q, 3, none⟩ = some (.int .i64 ih) := ⟨j1, j3, z0, z1, z2, z3⟩
    refine ⟨_, rfl, fun _ => HS6, ?_⟩
    try simp only [Act.put, List.getElem_toArray, List.getElem_cons_zero, List.getElem_cons_succ, List.setIfInBounds_toArray, List.set_cons_zero, List.set_cons_succ]
    refine anyZ_take 11 8 (v := .tuple #[.slice va vn vc, .int .i64 0]) rfl (by kernel_rfl) (fun _ _ _ h => h.elim) (Or.inl ⟨by rfl, fun wx hx => by obtain ⟨⟨x0, x1, x2⟩, ⟨x3, x4⟩, x5, x6, x7, x8⟩ := hx; clear HS6; go_simp⟩) HS6 ?_
    try simp only [Act.put, List.getElem_toArray, List.getElem_cons_zero, List.getElem_cons_succ, List.setIfInBounds_toArray, List.set_cons_zero, List.set_cons_succ]
    refine anyZ_take 12 8 (v := .slice va vn vc) rfl (by kernel_rfl) (fun _ _ _ h => h.elim) (Or.inl ⟨by rfl, fun wx hx => by obtain ⟨⟨x0, x1, x2⟩, ⟨x3, x4⟩, x5, x6, x7, x8⟩ := hx; clear HS6; go_simp⟩) HS6 ?_
    try simp only [Act.put, List.getElem_toArray, List.getElem_cons_zero, List.getElem_cons_succ, List.setIfInBounds_toArray, List.set_cons_zero, List.set_cons_succ]
    refine anyZ_take 13 8 (v := .int .i64 0) rfl (by kernel_rfl) (fun _ _ _ h => h.elim) (Or.inl ⟨by rfl, fun wx hx => by obtain ⟨⟨x0, x1, x2⟩, ⟨x3, x4⟩, x5, x6, x7, x8⟩ := hx; clear HS6; go_simp⟩) HS6 ?_
    try simp only [Act.put, List.getElem_toArray, List.getElem_cons_zero, List.getElem_cons_succ, List.setIfInBounds_toArray, List.set_cons_zero, List.set_cons_succ]
    refine anyZ_ready (rs := [14]) (by kernel_rfl) (by simp) ?_
    refine readyZ.cons rfl rfl (run_assign (v := .slice va vn vc) (by rfl) (by rfl)) (fun _ => HS6) ?_ readyZ.nil
    try simp only [Act.put, List.getElem_toArray, List.getElem_cons_zero, List.getElem_cons_succ, List.setIfInBounds_toArray, List.set_cons_zero, List.set_cons_succ]
    refine anyZ_ready (rs := [15]) (by kernel_rfl) (by simp) ?_
    refine readyZ.cons rfl rfl (run_assign (v := .int .i64 0) (by rfl) (by rfl)) (fun h => absurd (by decide) h) ?_ readyZ.nil
    try simp only [Act.put, List.getElem_toArray, List.getElem_cons_zero, List.getElem_cons_succ, List.setIfInBounds_toArray, List.set_cons_zero, List.set_cons_succ]
    refine anyZ_done (by kernel_rfl) ?_ _
    dsimp only [Only, Exit.then]
    have hCl : 0 < C.length := by
      rw [hT.1]
      have h1 := Hnum.out
      have : 0 < ih * iw := Int.mul_pos (by omega) (by omega)
      omega
    obtain ⟨gc, cc, hcv, hgc⟩ := hct.form hCl
    rw [hcv]
    rw [hcv] at hct hown2
    have HC := hide (And.intro hct hT)
    have HE := hide (And.intro bw2 (And.intro F2 (And.intro HbZ.out.2.2.1 (show ∀ j, (Value.slice (some ⟨gc, 0, none⟩) C.length cc).ownBlock = some j → X.heap.size ≤ j from fun j e => Nat.le_trans HbZ.out.1.size (hown2 j e)))))
    clear hct hT hown2 hcv hCl hb2 bw2 F2 j1 j3 z0 z1 z2 z3 hqZ HS5 HS6 HCo2 va vn vc
    go_wp2_with fail
    go_loopw [13, 42] (fun l v wr => ∃ (i : Nat) (la : Option Addr) (m lc : Nat), l = .slice la m lc ∧ v = .int .i64 (i : Nat) ∧ i ≤ NL.length ∧ (RE wr (.slice la m lc) (insL C ix iy iw (NL.take i)) ∧ ∀ g, (Value.slice la m lc).ownBlock = some g → w2.heap.size ≤ g) ∧ Below w2.heap.size w2 wr) (fun _ v _ => NL.length - (intOf v).toNat)
    case atStart => exact ⟨0, none, 0, 0, rfl, rfl, Nat.zero_le _, ⟨Rw.nil _ _ _ _, fun g e => by cases e⟩, Below.refl _ _⟩
    case round =>
      obtain ⟨i, la, m, lc, rfl, rfl, hi, ⟨hR, hRo⟩, hB⟩ := hrel
      by_cases hlt : i < NL.length
      · obtain ⟨t, ht⟩ : ∃ t, NL[i]? = some t := ⟨_, List.getElem?_eq_getElem hlt⟩
        obtain ⟨tx, ty⟩ := t
        have hBX : Below X.heap.size X wr := bt HE.out.1 hB
        obtain ⟨gn, rfl, hgn, n0, n1⟩ := RC_at (HN.out wr hBX) ht
        obtain ⟨Y, hY⟩ : ∃ Y, wr.alloc (.cells #[.int .i64 tx, .int .i64 ty] 47) = Y := ⟨_, rfl⟩
        have bY : Below wr.heap.size wr Y := hY ▸ box1 _ _
        have TY : Two Y wr.heap.size tx ty := by rw [← hY]; exact Two.newAt rfl
        have FY := HE.out.2.1.kept (bt hB bY)
        have hq2 := HE.out.2.1.2.2
        have hin := HNi.out (tx, ty) (List.mem_of_getElem? ht)
        obtain ⟨hi1, hi2, hi3, hW, hH⟩ := Hnum.out
        obtain ⟨zy, z, z', hz0, hz1, hz2, hz3⟩ := idx13 (ix := ix) (iy := iy) (iw := iw) (ih := ih) ⟨by omega, by omega, by omega, by omega⟩ hin
        have hjl := ij_lt hin
        simp only at hjl
        rw [← HC.out.2.1] at hjl
        obtain ⟨j, hj⟩ : ∃ j, ij ix iy iw tx ty = j := ⟨_, rfl⟩
        rw [hj] at hz3 hjl
        obtain ⟨mm, hmm⟩ : ∃ mm, C[j]? = some mm := ⟨_, List.getElem?_eq_getElem hjl⟩
        obtain ⟨cj, fj⟩ := (HC.out.1.upto (bt hB bY)).got hmm
        have htk := insL_take (C := C) (ix := ix) (iy := iy) (iw := iw) ht
        have hF : insF C ix iy iw (tx, ty) = if 0 < mm then [⟨tx, ty, mm⟩] else [] := by
          unfold insF
          simp only
          rw [hj, hmm]
        rw [hF] at htk
        obtain ⟨⟨f0, f1, f2, f3⟩, -, -⟩ := id FY
        obtain ⟨⟨t0, t1⟩, -, -⟩ := id TY
        have hRY := hR.upto bY
        have hml := insL_len C ix iy iw (NL.take i)
        have hml2 : (NL.take i).length ≤ 100 := by rw [List.length_take]; omega
        have hki : (i : Int) < (NL.length : Nat) := by omega
        have hji : (j : Int) < (C.length : Nat) := by omega
        have HY := hide hY
        have HBY := hide (bt hB bY)
        have Htk := hide htk
        have hnew : wr.heap.size < Y.heap.size := by rw [← hY]; simp
        by_cases h0 : 0 < mm
        · obtain ⟨v', w', q1, q2, q3, q4⟩ := push_E hRY ⟨tx, ty, mm⟩ (by omega)
          obtain ⟨a2, n2, c2, hv2⟩ : ∃ a n c, v' = .slice a n c := by obtain ⟨a, c, e⟩ := slice_E q2; exact ⟨_, _, _, e⟩
          simp only at q1
          have HA := hide q1
          have HN2 : Hid (RE w' v' (insL C ix iy iw (NL.take (i + 1))) ∧ (∀ g, v'.ownBlock = some g → w2.heap.size ≤ g) ∧ Below w2.heap.size w2 w') := hide ⟨by rw [Htk.out, if_pos h0]; exact q2, fun g e => by
              have := HBY.out.size
              rcases q3 g e with q | q
              · exact hRo g q
              · omega, HBY.out.trans (q4.below (fun k e => hRo k e) HBY.out.size)⟩
          subst hv2
          clear hR hRo hB hBX bY TY FY hin hi1 hi2 hi3 hW hH hmm htk hF hRY hml hml2 q1 q2 q3 q4 ht hgn hjl hj
          go_wp2_with (first | (rw [HY.out]) | (at_builtin; refine wpList_append_run12 rfl _ _ 60 rfl _ _ rfl rfl HA.out ?_))
          go_roundw
          case rel => exact ⟨i + 1, _, _, _, rfl, by go_num, by omega, ⟨HN2.out.1, HN2.out.2.1⟩, HN2.out.2.2⟩
          case measure => simp only [intOf]; omega
        · have HN2 : Hid (RE Y (.slice la m lc) (insL C ix iy iw (NL.take (i + 1))) ∧ (∀ g, (Value.slice la m lc).ownBlock = some g → w2.heap.size ≤ g) ∧ Below w2.heap.size w2 Y) := hide ⟨by rw [Htk.out, if_neg h0, List.append_nil]; exact hRY, hRo, HBY.out⟩
          clear hR hRo hB hBX bY TY FY hin hi1 hi2 hi3 hW hH hmm htk hF hRY hml hml2 ht hgn hjl hj
          go_wp2_with (rw [HY.out])
          go_roundw
          case rel => exact ⟨i + 1, _, _, _, rfl, by go_num, by omega, ⟨HN2.out.1, HN2.out.2.1⟩, HN2.out.2.2⟩
          case measure => simp only [intOf]; omega
      · have hi' : i = NL.length := by omega
        subst hi'
        rw [List.take_length] at hR
        have HF := hide (show ∃ lv C, Ending.returned (.slice la m lc) = .returned lv ∧ Tbl W H tl f c s ix iy iw ih (fx, fy) C ∧ RE wr lv (insL C ix iy iw NL) ∧ Below w.heap.size w wr ∧ ∀ g, lv.ownBlock = some g → w.heap.size ≤ g from ⟨_, C, rfl, HC.out.2, hR, bt HB.out (bt HE.out.1 hB), fun g e => Nat.le_trans (bt HB.out HE.out.1).size (hRo g e)⟩)
        clear hR hB hRo HE HC
        go_wp2_with fail
        refine bodyPost_ret (v := .slice la m lc) (by simp [results, Tryz.f59, go_sem]) rfl ?_
        exact HF.out
end Go.Proofs.YthiafmlgialbnaaGreatDoor
set_option linter.unusedSimpArgs false
namespace Go.Proofs.YthiafmlgialbnaaGreatDoor
open Go.RowKit Go.Shelf
set_option linter.unusedVariables false
attribute [local go_sem] Oper.semAt_some
/-- Those to a side. -/
def flt (l : List (Fin 8)) : List (Fin 8) := l.filter (fun i => decide (i.val < 4))
theorem flt_lo (l : List (Fin 8)) {k : Fin 8} (h : k.val < 4) : flt (l ++ [k]) = flt l ++ [k] := by simp [flt, List.filter_append, h]
theorem flt_hi (l : List (Fin 8)) {k : Fin 8} (h : ¬ k.val < 4) : flt (l ++ [k]) = flt l := by simp [flt, List.filter_append, h]
theorem flt_len (l : List (Fin 8)) : (flt l).length ≤ l.length := List.length_filter_le _ _
theorem flt_pre {a b : List (Fin 8)} (h : a <+: b) : flt a <+: flt b := h.filter _
theorem flt_end {p0 l : List (Fin 8)} {t : Fin 8} (hl : l.Pairwise (fun a b => a.val < b.val)) (h : p0 ++ [t] <+: l) (ht : ¬ t.val < 4) : flt (p0 ++ [t]) = flt l := by
  obtain ⟨r, rfl⟩ := h
  rw [flt, flt, List.filter_append (p0 ++ [t]) r]
  have hr : r.filter (fun i => decide (i.val < 4)) = [] := by
    rw [List.filter_eq_nil_iff]
    intro a ha
    have h1 := (List.pairwise_append.1 hl).2.2 t (by simp) a ha
    rw [decide_eq_true_eq]
    omega
  rw [hr, List.append_nil]
theorem round_up (x y p q c d : Int) : (roundN x y p q c d 8).Pairwise (fun a b => a.val < b.val) := by
  have h : ((List.finRange 8).take 8).Pairwise (fun a b : Fin 8 => a.val < b.val) := by decide
  exact h.filter _
/-- The neighbours of a cluster, by their directions. -/
def nbs (W H x y : Int) : List (Fin 8) := if rB W H x y = true then flt (roundN x y 0 0 (clN W) (clN H) 8) else []
theorem cells_own {β : Type} (B k : Nat) (cs : Array Value) (t : TypeId) : OwnFrom B (fun (_ : β) X => X.heap[k]? = some (.cells cs t (0, 0))) := fun _ X Y row hs hg hr =>
  (hg.block k (Array.getElem?_eq_some_iff.1 hs).1 (fun e => by
    obtain ⟨-, o, ho, hn⟩ := hr k e.symm
    rw [hs] at ho
    cases ho
    cases hn)).trans hs
set_option maxRecDepth 100000 in
set_option maxHeartbeats 4000000 in
theorem car_seqT (n p hq : Nat) (W H x y : Int) (tl : List Nat) (f : Int → Int → Option Int) (w : World) (hn : 1 ≤ n) (hP : Boxed w hq 29 (ptr p)) (hC : Two w (hq + 1) x y) (hw : Wl w p W H tl f) (ho : Offs w) :
    SeqOwnT 63 n 121 #[ptr hq, ptr (hq + 1)] (encA x y) (KB 0) (fun xs => xs = nbs W H x y) (fun pre => pre <+: nbs W H x y) 8 w := fun l J Jx V hV hJ hJx hY h0 => by
  refine callsIn_of_wp_marks Tryz.func121 rfl trivial ?_ rfl
  simp only [Tryz.ntmps121, List.size_toArray, List.length_cons, List.length_nil, Nat.reduceAdd, Nat.reduceSub, Array.replicate_succ, Array.replicate_zero, List.push_toArray, List.append_toArray, List.nil_append, List.cons_append]
  obtain ⟨L, hL⟩ : ∃ L, nbs W H x y = L := ⟨_, rfl⟩
  rw [hL]
  unfold nbs rB at hL
  obtain ⟨V0, hV0⟩ : ∃ V0, V.alloc (.cells #[.func (.yield l) #[] #[]] 174) = V0 := ⟨_, rfl⟩
  have B0 : Below V.heap.size V V0 := by rw [← hV0]; exact box1 _ _
  have Y0 : Boxed V0 V.heap.size 174 (.func (.yield l) #[] #[]) := by rw [← hV0]; exact Boxed.new V 174 _
  have z0 : V0.heap.size = V.heap.size + 1 := by rw [← hV0]; simp
  have hW0 : Below w.heap.size w V0 := bt hV B0
  have P0 := boxed_upto hP hW0 hP.lt
  have c0 := P0.cell
  have C0 := hC.kept hW0
  have O0 := ho.kept hW0
  have HC := hide (clus_is (hw.kept hW0))
  generalize clN W = a at HC hL
  generalize clN H = b at HC hL
  have HL := hide hL
  clear hw P0 hP hC ho hL
  gi_wp2_with fail
  refine ⟨trivial, ?_⟩
  refine (callsIn_wide.2 HC.out).mono ?_
  rintro e w1 ⟨rfl, hb1⟩
  clear hV0 HC c0
  obtain ⟨w2, h2⟩ : ∃ w2, w1.alloc (.cells #[.int .i64 0, .int .i64 0, .int .i64 a, .int .i64 b] 49) = w2 := ⟨_, rfl⟩
  have F2 : Four w2 w1.heap.size 0 0 a b := by rw [← h2]; exact Four.new12 _ _ _ _ _ _
  have B2 : Below V0.heap.size V0 w2 := bt hb1 (by rw [← h2]; exact box1 _ _)
  have C2 := C0.kept B2
  have O2 := O0.kept B2
  have Y2 := boxed_upto Y0 B2 Y0.lt
  have hs1 := hb1.size
  clear hb1 C0 O0 Y0
  obtain ⟨⟨f0, f1, f2, f3⟩, -, -⟩ := id F2
  obtain ⟨⟨t0, t1⟩, -, -⟩ := id C2
  gi_wp2_with fail
  clear h2
  cases hr : has 0 0 a b x y
  · have HI := hide hr
    clear hr
    refine ⟨trivial, ?_⟩
    refine (callsIn_wide.2 (hasc_is w2 HI.out)).mono ?_
    rintro e w3 ⟨rfl, hb3⟩
    have HJ := hide (own_below hJ h0 (bt B0 (bt B2 hb3)))
    clear f0 f1 f2 f3 t0 t1 h0 hY
    gi_wp2_with fail
    exact ⟨.tuple #[], by simp [results, Tryz.f121, go_sem], ⟨_, rfl⟩, .inl ⟨[], by rw [← HL.out, HI.out]; rfl, HJ.out⟩⟩
  · have HI := hide hr
    clear hr
    refine ⟨trivial, ?_⟩
    refine (callsIn_wide.2 (hasc_is w2 HI.out)).mono ?_
    rintro e w3 ⟨rfl, hb3⟩
    clear f0 f1 f2 f3 t0 t1
    have C3 := C2.kept hb3
    have F3 := F2.kept hb3
    have O3 := O2.kept hb3
    have Y3 := boxed_upto Y2 hb3 Y2.lt
    have B3 := bt B2 hb3
    obtain ⟨⟨f0, f1, f2, f3⟩, -, -⟩ := id F3
    obtain ⟨⟨t0, t1⟩, -, -⟩ := id C3
    gi_wp2_with fail
    refine ⟨trivial, ?_⟩
    refine (callsIn_wide.2 (caround_any _ _ _ _ _ _ _)).mono ?_
    rintro e X0 ⟨rfl, hX0⟩
    have C4 : Two X0 w3.heap.size x y := by rw [hX0]; exact (Two.newAt rfl).alloc
    have F4 : Four X0 (w3.heap.size + 1) 0 0 a b := by rw [hX0]; exact Four.newAt12 _ _ _ _ _ (by simp)
    have o4 : X0.heap[w3.heap.size]? = some (.cells #[.int .i64 x, .int .i64 y] 47 (0, 0)) := by rw [hX0]; exact (Below.heap_alloc _ _ _ (by simp)).trans (World.alloc_heap_new w3 _)
    have o5 : X0.heap[w3.heap.size + 1]? = some (.cells #[.int .i64 0, .int .i64 0, .int .i64 a, .int .i64 b] 49 (0, 0)) := by rw [hX0]; have := World.alloc_heap_new (w3.alloc (.cells #[.int .i64 x, .int .i64 y] 47)) (.cells #[.int .i64 0, .int .i64 0, .int .i64 a, .int .i64 b] 49); rwa [World.size_alloc] at this
    have B4' : Below w3.heap.size w3 X0 := by rw [hX0]; exact box2 _ _ _
    have z4 : X0.heap.size = w3.heap.size + 2 := by rw [hX0]; simp
    have O4 := O3.kept B4'
    have Y4 := boxed_upto Y3 B4' Y3.lt
    have B4 := bt B3 B4'
    have hs3 := hb3.size
    have hs4 := B4.size
    clear f0 f1 f2 f3 t0 t1 hX0 B4' hb3
    gi_wp2_with fail
    have j1 : J [] X0 := own_below hJ h0 (bt B0 B4)
    have hr0 := O4.1
    have hw2 : w2.heap.size ≤ w3.heap.size := hs3
    have hw1 : V0.heap.size ≤ w2.heap.size := B2.size
    refine wpIn_rangeFunc_ownH rfl hn (gf := 155) (lb := #[ptr w3.heap.size, ptr (w3.heap.size + 1)]) rfl trivial (enters_of Tryz.func155 (by kernel_rfl) rfl)
      (around_stopsK (n - 1) w3.heap.size (w3.heap.size + 1) x y 0 0 a b X0 O4 C4 F4) (fun h k => h.trans k) (kA_b (by omega) (by omega) (by omega)) (Below.refl _ _) (fun _ => rfl)
      (fun pre X => (J (flt pre) X ∧ X0.heap.size ≤ X.heap.size) ∧ Boxed X V.heap.size 174 (.func (.yield l) #[] #[]) ∧ (X.heap[w3.heap.size]? = some (.cells #[.int .i64 x, .int .i64 y] 47 (0, 0)) ∧ X.heap[w3.heap.size + 1]? = some (.cells #[.int .i64 0, .int .i64 0, .int .i64 a, .int .i64 b] 49 (0, 0))))
      (fun c pre X => c = .ret ∧ (Jx (flt pre) X ∨ (J (flt pre) X ∧ ∃ p0 t, pre = p0 ++ [t] ∧ ¬ (t : Fin 8).val < 4)))
      (OwnFrom.and (OwnFrom.and (fun s X Y row hs hg hr => own_wide hJ (by omega) (flt s) X Y row hs hg hr) (ownFrom_size _ _)) (OwnFrom.and (Own.from (boxed_own _ _ _) _) (OwnFrom.and (cells_own _ _ _ _) (cells_own _ _ _ _))))
      (fun c s X Y row hs hg hr => ⟨hs.1, hs.2.imp (fun h => own_wide hJx (by omega) (flt s) X Y row h hg hr) (fun h => ⟨own_wide hJ (by omega) (flt s) X Y row h.1 hg hr, h.2⟩)⟩)
      ⟨⟨j1, Nat.le_refl _⟩, Y4, o4, o5⟩
      (fun t a' X => ∃ Bx, X0.heap.size ≤ Bx ∧ Two X Bx (x + dX t.val) (y + dY t.val) ∧ a' = { tmps := #[.func (.yield l) #[] #[], ptr hq, ptr (hq + 1), ptr V.heap.size, ptr w1.heap.size, .int .i64 (t.val : Int), ptr Bx, ptr p, rct 0 0 a b, rct 0 0 a b, cel x y, .bool true, .bool false, cel x y, rct 0 0 a b, .func (.func 155) #[] #[ptr w3.heap.size, ptr (w3.heap.size + 1)], .int .i64 (t.val : Int), cel (x + dX t.val) (y + dY t.val), undef, undef, undef, undef, undef, undef, undef, undef, undef], defers := [] })
      (fun q a' _ X Y row hs hg hr => by obtain ⟨Bx, e1, e2, e3⟩ := hs; exact ⟨Bx, e1, e2.own hg (fun r e => (hr r e).2), e3⟩)
      ?assign ?body ?done ?stop
    case assign =>
      rintro l' pre q X K ⟨⟨hJX, hzX⟩, bY, oX4, oX5⟩ hK
      gi_wp2
      exact hK _ _ ((KeepsOthers.alloc _ _).from _) (KA.below (box1 _ _) (by omega) (by omega) (by omega)) ⟨⟨own_below hJ hJX (box1 _ _), by simp; omega⟩, bY.alloc _, (Below.heap_alloc _ _ _ (Array.getElem?_eq_some_iff.1 oX4).1).trans oX4, (Below.heap_alloc _ _ _ (Array.getElem?_eq_some_iff.1 oX5).1).trans oX5⟩ ⟨X.heap.size, by omega, Two.newAt rfl, rfl⟩
    case body =>
      rintro l' pre q a' X hl' ⟨r, hrr⟩ ⟨⟨hJX, hzX⟩, bY, oX4, oX5⟩ ⟨Bx, hBx, bX, rfl⟩ hlt
      have cY := bY.cell
      obtain ⟨⟨d0, d1⟩, -, -⟩ := id bX
      by_cases h4 : q.val < 4
      · obtain ⟨fn, tmps, asg, bd, hy, hR⟩ := hY (flt pre) q X hJX (Nat.lt_of_le_of_lt (flt_len pre) hlt)
        have HJ := hide hJX
        clear hJX
        dsimp only [encA] at hy
        have h4i : ¬ (3 : Int) < ((q.val : Nat) : Int) := by omega
        have h4b : decide ((3 : Int) < ((q.val : Nat) : Int)) = false := decide_eq_false h4i
        gi_wp2_with fail
        refine ⟨fun h => (by cases h), ?_⟩
        refine (round_any _ hR).mono ?_
        rintro e Y ⟨hk, (⟨rfl, hJ3, hk3⟩ | ⟨rfl, hJx3⟩)⟩
        · have HJ3 := hide hJ3
          clear hJ3 hR hy
          gi_wp2_with fail
          exact ⟨(hk.mono (by omega)).from, ⟨(hk.at (by omega) oX4 rfl).trans oX4.symm, (hk.at (by omega) oX5 rfl).trans oX5.symm, hk3⟩, ⟨by rw [flt_lo pre h4]; exact HJ3.out, Nat.le_trans hzX hk.1⟩, hk.at (Nat.le_refl _) bY rfl, hk.at (by omega) oX4 rfl, hk.at (by omega) oX5 rfl⟩
        · have HJ3 := hide hJx3
          clear hJx3 hR hy
          gi_wp2_with fail
          exact ⟨(hk.mono (by omega)).from, rfl, .inl (by rw [flt_lo pre h4]; exact HJ3.out)⟩
      · have h4i : (3 : Int) < ((q.val : Nat) : Int) := by omega
        have h4b : decide ((3 : Int) < ((q.val : Nat) : Int)) = true := decide_eq_true h4i
        have HJ := hide hJX
        clear hJX
        gi_wp2_with fail
        refine ⟨fun f hf => (by cases hf), ?_⟩
        gi_wp2_with fail
        exact ⟨KeepsFrom.refl _ _, rfl, .inr ⟨by rw [flt_hi pre h4]; exact HJ.out, pre, q, rfl, h4⟩⟩
    case done =>
      rintro D xs X hD rfl ⟨⟨hJX, hzX⟩, bY, oX4, oX5⟩ hK
      have HE := hide (hJ _ _ _ (some D) hJX (grownBy_putObj' X D (.deferred none)) (fun r e => by cases e; exact ⟨by omega, _, hK, rfl⟩))
      clear hJX
      gi_wp2_with fail
      refine ⟨by simp, .inl ⟨_, _, rfl, run_takeDeferred hK, ?_⟩⟩
      refine ⟨.tuple #[], by simp [results, Tryz.f121, go_sem], ⟨_, rfl⟩, .inl ⟨flt (roundN x y 0 0 a b 8), by rw [← HL.out, HI.out]; rfl, HE.out⟩⟩
    case stop =>
      rintro D c pre X hD hpre ⟨rfl, hJX⟩ hK
      rcases hJX with hJX | ⟨hJX, p0, t, rfl, ht⟩
      · have HE := hide (hJx _ _ _ (some D) hJX (grownBy_putObj' X D (.deferred none)) (fun r e => by cases e; exact ⟨by omega, _, hK, rfl⟩))
        clear hJX
        gi_wp2
        refine ⟨by simp, .inl ⟨_, _, rfl, run_takeDeferred hK, ?_⟩⟩
        exact ⟨.tuple #[], by simp [results, Tryz.f121, go_sem], ⟨_, rfl⟩, .inr ⟨flt pre, by rw [← HL.out, HI.out]; exact flt_pre hpre, HE.out⟩⟩
      · have HE := hide (hJ _ _ _ (some D) hJX (grownBy_putObj' X D (.deferred none)) (fun r e => by cases e; exact ⟨by omega, _, hK, rfl⟩))
        clear hJX
        gi_wp2
        refine ⟨by simp, .inl ⟨_, _, rfl, run_takeDeferred hK, ?_⟩⟩
        exact ⟨.tuple #[], by simp [results, Tryz.f121, go_sem], ⟨_, rfl⟩, .inl ⟨flt (p0 ++ [t]), by rw [← HL.out, HI.out]; exact flt_end (round_up _ _ _ _ _ _) hpre ht, HE.out⟩⟩
end Go.Proofs.YthiafmlgialbnaaGreatDoor
set_option linter.unusedSimpArgs false
namespace Go.Proofs.YthiafmlgialbnaaGreatDoor
open Go.RowKit Go.Shelf
set_option linter.unusedVariables false
attribute [local go_sem] Oper.semAt_some
theorem run_c88 {ev : Operand → Value} {o : Oper} {w : World} {ar : Array Operand} {ts : Array TypeId} {vs : Array Value} (hop : o.op = .call { callee := .value (.func 88), args := ar, argTypes := ts }) (hf : ev (.func 88) = .func (.func 88) #[] #[]) (hvs : ar.map ev = vs) : (execOp ev o).run Tryz.prog w = .ok (.enter 88 vs) w := by
  unfold execOp
  simp only [hop, resolve, hf, hvs]
  go_simp
abbrev nilS : Value := .slice none 0 0
theorem map_ne {z : Value} {w : World} {b : Nat} {K : List (Int × Int)} {F : Int → Int → Value} (h : MapS z w b K F) {g t : Nat} {cur : Array Value} {fz : Nat × Nat} (hg : w.heap[g]? = some (.cells cur t fz)) : g ≠ b := by
  rintro rfl
  obtain ⟨es, clock, hb⟩ := h.blk
  rw [hg] at hb
  cases hb
/-- A map of rows of edges, each row in memory of its own. -/
structure AcM (B : Nat) (Y : World) (mb : Nat) (K : List (Int × Int)) (F : Int → Int → Value) (E : Int × Int → List E3) : Prop where
  mp : MapS nilS Y mb K F
  rows : ∀ x y, RE Y (F x y) (E (x, y))
  apart : ∀ x y u v g, (F x y).ownBlock = some g → (F u v).ownBlock = some g → x = u ∧ y = v
  own : ∀ x y g, (F x y).ownBlock = some g → B ≤ g
section
variable {B : Nat} {Y Y' : World} {mb : Nat} {K : List (Int × Int)} {F : Int → Int → Value} {E : Int × Int → List E3}
theorem AcM.ne (h : AcM B Y mb K F E) {x y : Int} {g : Nat} (hg : (F x y).ownBlock = some g) : g ≠ mb := by
  obtain ⟨cur, hc⟩ := (h.rows x y).blk hg
  exact map_ne h.mp hc
theorem AcM.lt (h : AcM B Y mb K F E) {x y : Int} {g : Nat} (hg : (F x y).ownBlock = some g) : g < Y.heap.size := by
  obtain ⟨cur, hc⟩ := (h.rows x y).blk hg
  exact (Array.getElem?_eq_some_iff.1 hc).1
theorem AcM.kept {S : Nat → Prop} (h : AcM B Y mb K F E) (ht : Turns S Y Y') (hb : ¬ S mb) (ho : ∀ x y g, (F x y).ownBlock = some g → ¬ S g) : AcM B Y' mb K F E :=
  ⟨h.mp.kept ht hb, fun x y => (h.rows x y).kept ht (fun g e => ho x y g e), h.apart, h.own⟩
theorem AcM.upto (h : AcM B Y mb K F E) (hb : Below Y.heap.size Y Y') : AcM B Y' mb K F E := h.kept (S := NoB) (Turns.of_below hb) id (fun _ _ _ _ => id)
def addE (E : Int × Int → List E3) (q : Int × Int) (e : E3) : Int × Int → List E3 := fun r => if r = q then E q ++ [e] else E r
theorem AcM.add (h : AcM B Y mb K F E) {x y : Int} (tx ty : Int) (hx : W64 x) (hy : W64 y) (hlen : K.length ≤ 1000) (hE : (E (x, y)).length ≤ 1000) (hBY : B ≤ Y.heap.size) :
    ∃ st w1 v2 w2 w3, (Instr.mapEntry 65 (.map (some mb)) (cel x y)).run Tryz.prog (Y.alloc (.cells #[.int .i64 tx, .int .i64 ty, .int .i64 10] 63)) = .ok (.tuple #[F x y, .int .i64 (st : Nat)]) w1 ∧
      (Builtin.append_ #[60, 60] 60 #[F x y, .slice (some ⟨Y.heap.size, 0, none⟩) 1 1]).run Tryz.prog w1 = .ok v2 w2 ∧ (Instr.entryStore 65 (.map (some mb)) (.int .i64 (st : Nat)) v2).run Tryz.prog w2 = .ok () w3 ∧
      AcM B w3 mb (kput K (x, y)) (fput F x y v2) (addE E (x, y) ⟨tx, ty, 10⟩) ∧ Turns (fun k => k = mb ∨ (F x y).ownBlock = some k) Y w3 := by
  have hmb := h.mp.lt
  have b1 := box1 Y (.cells #[.int .i64 tx, .int .i64 ty, .int .i64 10] 63)
  have zY1 : (Y.alloc (.cells #[.int .i64 tx, .int .i64 ty, .int .i64 10] 63)).heap.size = Y.heap.size + 1 := by simp
  have hnew := heap_alloc_new Y (.cells #[.int .i64 tx, .int .i64 ty, .int .i64 10] 63)
  have h1 := h.upto b1
  generalize Y.alloc (.cells #[.int .i64 tx, .int .i64 ty, .int .i64 10] 63) = Y1 at b1 zY1 hnew h1 ⊢
  obtain ⟨st, w1, r1, T1, z1, back⟩ := h1.mp.entry Tryz.underlying65 (fun u => by kernel_rfl) hx hy (by unfold maxLen; omega)
  have hF1 := (h1.rows x y).kept T1 (fun g e => h1.ne e)
  have hn1 := T1.same (show ¬ Y.heap.size = mb by omega) hnew
  obtain ⟨v2, w2, r2, q2, q3, q4⟩ := more_E (c := 1) hF1 (M := [⟨tx, ty, 10⟩]) (a := ⟨Y.heap.size, 0, none⟩) (fun j u hu => by
    rw [Addr.add_lit, Nat.zero_add, cell_of_row _ Y.heap.size j _ _ _ hn1]
    simpa [E3.cs] using hu) (by simp; omega)
  have hno : ¬ (F x y).ownBlock = some mb := fun e => h1.ne e rfl
  obtain ⟨w3, r3, m3, T3⟩ := back w2 v2 (q4.block mb (by omega) hno) (isS_row q2)
  have hv2 : ∀ g, v2.ownBlock = some g → g ≠ mb := fun g e => by
    obtain ⟨cur, hc⟩ := q2.blk e
    rintro rfl
    obtain ⟨es, clock, hm⟩ := m3.blk
    obtain ⟨es1, clock1, hm1⟩ := h1.mp.blk
    rcases q3 g e with q | q
    · exact h1.ne q rfl
    · omega
  have TA : Turns (fun k => k = mb ∨ (F x y).ownBlock = some k) Y w3 := (Turns.of_below b1).trans (((T1.mono (fun k _ e => .inl (.inl e))).trans (q4.mono (fun k _ e => .inl (.inl (.inr e))))).trans (T3.mono (fun k _ e => .inl (.inl (.inl e)))))
  have hown2 : ∀ g, v2.ownBlock = some g → (F x y).ownBlock = some g ∨ Y.heap.size ≤ g := fun g e => (q3 g e).imp id (fun q => by omega)
  refine ⟨st, w1, v2, w2, w3, r1, r2, r3, ⟨m3, fun u v => ?_, fun a b u v g e1 e2 => ?_, fun u v g e => ?_⟩, TA⟩
  · unfold fput addE
    by_cases e : u = x ∧ v = y
    · rw [if_pos e, e.1, e.2, if_pos rfl]
      exact q2.kept T3 (fun g e => hv2 g e)
    · rw [if_neg e, if_neg (fun q => e (by simpa using q))]
      exact (h.rows u v).kept TA (fun g e1 e2 => e2.elim (fun q => h.ne e1 q) (fun q => e (by obtain ⟨e3, e4⟩ := h.apart _ _ _ _ _ e1 q; exact ⟨e3, e4⟩)))
  · unfold fput at e1 e2
    by_cases ha : a = x ∧ b = y <;> by_cases hu : u = x ∧ v = y
    · exact ⟨ha.1.trans hu.1.symm, ha.2.trans hu.2.symm⟩
    · rw [if_pos ha] at e1; rw [if_neg hu] at e2
      rcases hown2 g e1 with q | q
      · obtain ⟨e3, e4⟩ := h.apart _ _ _ _ _ e2 q
        exact absurd ⟨e3, e4⟩ hu
      · have := h.lt e2; omega
    · rw [if_neg ha] at e1; rw [if_pos hu] at e2
      rcases hown2 g e2 with q | q
      · obtain ⟨e3, e4⟩ := h.apart _ _ _ _ _ e1 q
        exact absurd ⟨e3, e4⟩ ha
      · have := h.lt e1; omega
    · rw [if_neg ha] at e1; rw [if_neg hu] at e2
      exact h.apart _ _ _ _ _ e1 e2
  · unfold fput at e
    by_cases hu : u = x ∧ v = y
    · rw [if_pos hu] at e
      rcases hown2 g e with q | q
      · exact h.own _ _ _ q
      · omega
    · rw [if_neg hu] at e
      exact h.own _ _ _ e
end
/-- The edges across a border that portals make at a cell. -/
def acE (L : List Q4) (q : Int × Int) : List E3 := (L.filter (fun t => decide (t.A = q))).map (fun t => ⟨t.a, t.b, 10⟩)
theorem acE_snoc (L : List Q4) (t : Q4) : acE (L ++ [t]) = addE (acE L) t.A ⟨t.a, t.b, 10⟩ := by
  funext q
  unfold acE addE
  rw [List.filter_append, List.map_append, List.filter_cons]
  by_cases e : q = t.A
  · subst e; simp
  · rw [if_neg e]
    have : decide (t.A = q) = false := decide_eq_false (fun h => e h.symm)
    simp [this]
theorem acE_len (L : List Q4) (q : Int × Int) : (acE L q).length ≤ L.length := by
  unfold acE
  rw [List.length_map]
  exact List.length_filter_le _ _
/-- What the rounds keep: the map so far. -/
def AcS (B : Nat) (Y : World) (mb : Nat) (L : List Q4) : Prop := ∃ K F, AcM B Y mb K F (acE L) ∧ (∀ q, q ∈ K ↔ ∃ t ∈ L, t.A = q) ∧ K.length ≤ L.length
theorem AcS.kept {B : Nat} {Y Y' : World} {mb : Nat} {L : List Q4} {S : Nat → Prop} (h : AcS B Y mb L) (ht : Turns S Y Y') (hb : ¬ S mb) (ho : ∀ g cur, Y.heap[g]? = some (.cells cur 63 (0, 0)) → ¬ S g) : AcS B Y' mb L := by
  obtain ⟨K, F, h1, h2, h3⟩ := h
  exact ⟨K, F, h1.kept ht hb (fun x y g e => by obtain ⟨cur, hc⟩ := (h1.rows x y).blk e; exact ho g cur hc), h2, h3⟩
/-- One portal more. -/
theorem AcS.add {B : Nat} {Y : World} {mb : Nat} {L : List Q4} (h : AcS B Y mb L) (t : Q4) (hx : W64 t.x) (hy : W64 t.y) (hlen : L.length ≤ 500) (hBY : B ≤ Y.heap.size) :
    ∃ fv st w1 v2 w2 w3, (∃ a n c, fv = .slice a n c) ∧ (∃ a n c, v2 = .slice a n c) ∧ (Instr.mapEntry 65 (.map (some mb)) (cel t.x t.y)).run Tryz.prog (Y.alloc (.cells #[.int .i64 t.a, .int .i64 t.b, .int .i64 10] 63)) = .ok (.tuple #[fv, .int .i64 (st : Nat)]) w1 ∧
      (Builtin.append_ #[60, 60] 60 #[fv, .slice (some ⟨Y.heap.size, 0, none⟩) 1 1]).run Tryz.prog w1 = .ok v2 w2 ∧ (Instr.entryStore 65 (.map (some mb)) (.int .i64 (st : Nat)) v2).run Tryz.prog w2 = .ok () w3 ∧
      AcS B w3 mb (L ++ [t]) ∧ ∃ So : Nat → Prop, Turns So Y w3 ∧ ∀ k, So k → k = mb ∨ (∃ cur, Y.heap[k]? = some (.cells cur 63 (0, 0)) ∧ B ≤ k) := by
  obtain ⟨K, F, h1, h2, h3⟩ := h
  obtain ⟨st, w1, v2, w2, w3, r1, r2, r3, m, T⟩ := h1.add t.a t.b hx hy (by omega) (by have := acE_len L (t.x, t.y); omega) hBY
  have hs : ∀ {w : World} {v : Value} {l : List E3}, RE w v l → ∃ a n c, v = .slice a n c := fun h => by obtain ⟨a, c, e⟩ := slice_E h; exact ⟨_, _, _, e⟩
  have hv2 := hs (m.rows t.x t.y)
  rw [show fput F t.x t.y v2 t.x t.y = v2 by simp [fput]] at hv2
  refine ⟨F t.x t.y, st, w1, v2, w2, w3, hs (h1.rows _ _), hv2, r1, r2, r3, ⟨kput K (t.x, t.y), fput F t.x t.y v2, ?_, fun q => ?_, ?_⟩, _, T, fun k hk => hk.imp id (fun e => ?_)⟩
  · rw [acE_snoc]; exact m
  · rw [mem_kput, h2]
    constructor
    · rintro (⟨u, hu, e⟩ | rfl)
      · exact ⟨u, List.mem_append_left _ hu, e⟩
      · exact ⟨t, by simp, rfl⟩
    · rintro ⟨u, hu, e⟩
      rcases List.mem_append.1 hu with hu | hu
      · exact .inl ⟨u, hu, e⟩
      · simp at hu; subst hu; exact .inr e.symm
  · rw [List.length_append, List.length_singleton]
    unfold kput
    split
    · omega
    · rw [List.length_append, List.length_singleton]; omega
  · obtain ⟨cur, hc⟩ := (h1.rows _ _).blk e
    exact ⟨cur, hc, h1.own _ _ _ e⟩
theorem in_rB {W H x y : Int} (hW : 1 ≤ W ∧ W ≤ 128) (hH : 1 ≤ H ∧ H ≤ 128) (h : (0 ≤ x ∧ x < W) ∧ 0 ≤ y ∧ y < H) : rB W H (x / 8) (y / 8) = true := (rB_iff hW hH).2 (by omega)
theorem acL_no {S : Int → Int → Bool} {W H kx ky : Int} (hW : 1 ≤ W ∧ W ≤ 128) (hH : 1 ≤ H ∧ H ≤ 128) (hS : ∀ u v, S u v = true → (0 ≤ u ∧ u < W) ∧ 0 ≤ v ∧ v < H) (hr : rB W H kx ky = false) : acL S W H kx ky = [] := by
  refine List.eq_nil_iff_forall_not_mem.2 (fun t ht => ?_)
  obtain ⟨d, hd, ht⟩ := mem_acL.1 ht
  obtain ⟨h1, -, -, h4, -⟩ := prtL_mem hW hH hS hd ht
  have := in_rB hW hH (hS _ _ h4)
  rw [h1.1, h1.2, hr] at this
  cases this
theorem nbs_all {S : Int → Int → Bool} {W H kx ky : Int} (hW : 1 ≤ W ∧ W ≤ 128) (hH : 1 ≤ H ∧ H ≤ 128) (hS : ∀ u v, S u v = true → (0 ≤ u ∧ u < W) ∧ 0 ≤ v ∧ v < H) : (nbs W H kx ky).flatMap (fun d => prtL S W H kx ky d.val) = acL S W H kx ky := by
  cases hr : rB W H kx ky
  · rw [acL_no hW hH hS hr]
    unfold nbs
    rw [hr, if_neg (by decide)]
    rfl
  obtain ⟨hx, hy⟩ := (rB_iff hW hH).1 hr
  have hno : ∀ d : Fin 8, d.val < 4 → inn kx ky 0 0 (clN W) (clN H) d.val = false → prtL S W H kx ky d.val = [] := fun d hd hf => by
    refine List.eq_nil_iff_forall_not_mem.2 (fun t ht => ?_)
    obtain ⟨h1, h2, h3, h4, h5⟩ := prtL_mem hW hH hS hd ht
    have h6 := hS _ _ h5
    have dx := dX_range d.val
    have dy := dY_range d.val
    have : inn kx ky 0 0 (clN W) (clN H) d.val = true := by
      unfold inn
      rw [Bool.and_eq_true]
      refine ⟨?_, (has_iff _ _ _ _ _ _).2 ⟨(may_iff _ _ _ _).2 (by unfold clN; omega), by unfold clN; omega⟩⟩
      unfold sB
      rw [Bool.and_eq_true, Bool.and_eq_true, nrC_iff, nrC_iff, isD_iff]
      refine ⟨⟨⟨by omega, by omega⟩, by omega, by omega⟩, ?_⟩
      rw [Int.toNat_natCast]
      omega
    rw [hf] at this
    cases this
  unfold nbs
  rw [if_pos hr]
  unfold flt roundN acL
  have hl : (List.finRange 8).take 8 = [0, 1, 2, 3, 4, 5, 6, 7] := by decide
  rw [hl]
  have key : ∀ l : List (Fin 8), (∀ d ∈ l, d.val < 4) → ∀ r : List (Fin 8), ((l.filter (fun i => inn kx ky 0 0 (clN W) (clN H) i.val)).filter (fun i => decide (i.val < 4))).flatMap (fun d => prtL S W H kx ky d.val) = l.flatMap (fun d => prtL S W H kx ky d.val) := fun l hl r => by
    induction l with
    | nil => rfl
    | cons d l ih =>
      have hd := hl d (List.mem_cons_self ..)
      have ih' := ih (fun e he => hl e (List.mem_cons_of_mem _ he))
      rw [List.filter_cons]
      cases hi : inn kx ky 0 0 (clN W) (clN H) d.val
      · simp only [Bool.false_eq_true, if_false]
        rw [ih', List.flatMap_cons, hno d hd hi, List.nil_append]
      · simp only [if_true]
        rw [List.filter_cons]
        simp only [hd, decide_true, if_true]
        rw [List.flatMap_cons, List.flatMap_cons, ih']
  have h2 : ([0, 1, 2, 3, 4, 5, 6, 7] : List (Fin 8)) = [0, 1, 2, 3] ++ [4, 5, 6, 7] := rfl
  rw [h2, List.filter_append, List.filter_append, List.flatMap_append, key [0, 1, 2, 3] (by decide) []]
  have h3 : (([4, 5, 6, 7] : List (Fin 8)).filter (fun i => inn kx ky 0 0 (clN W) (clN H) i.val)).filter (fun i => decide (i.val < 4)) = [] := by
    rw [List.filter_filter]
    refine List.filter_eq_nil_iff.2 (fun d hd => ?_)
    have : ¬ d.val < 4 := by simp at hd; rcases hd with rfl | rfl | rfl | rfl <;> decide
    simp [this]
  rw [h3]
  simp
  rfl
theorem around88 (p : Nat) (x y : Int) (w : World) : Calls Tryz.prog 88 #[ptr p, cel x y] w fun e w' => e = .returned (.func (.func 121) #[] #[ptr w.heap.size, ptr (w.heap.size + 1)]) ∧ w' = (w.alloc (.cells #[ptr p] 29)).alloc (.cells #[.int .i64 x, .int .i64 y] 47) := by
  go_enter Tryz.func88, Tryz.ntmps88
  go_wp2_with fail
  go_ret
  exact ⟨rfl, rfl⟩
end Go.Proofs.YthiafmlgialbnaaGreatDoor
