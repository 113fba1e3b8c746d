/-
  What a graph tells: of a node, of a cluster, of itself; and one that nobody made. The document's Dir and Cost, its Steps, Legal and Cost of a path. The document's Costs over a rectangle: what its rounds keep, and what holds where nothing turns any more. A plain of two clusters has two nodes, each with one edge.
-/
import Derived.Test.YthiafmlgialbnaaGreatDoorGnew
import Derived.Test.YthiafmlgialbnaaGreatDoorGSt
import Derived.Test.YthiafmlgialbnaaGreatDoorPc
import Derived.Test.YthiafmlgialbnaaGreatDoorAwake
set_option linter.unusedSimpArgs false
namespace Go.Proofs.YthiafmlgialbnaaGreatDoor
open Go.RowKit Go.Shelf
set_option linter.unusedVariables false
theorem run_c44 {ev : Operand → Value} {o : Oper} {w : World} {ar : Array Operand} {ts : Array TypeId} {vs : Array Value} (hop : o.op = .call { callee := .value (.func 44), args := ar, argTypes := ts }) (hf : ev (.func 44) = .func (.func 44) #[] #[]) (hvs : ar.map ev = vs) : (execOp ev o).run Tryz.prog w = .ok (.enter 44 vs) w := by
  unfold execOp
  simp only [hop, resolve, hf, hvs]
  go_simp
/-- A graph that nobody made: none, or the zero one. -/
def Nog (w : World) (z : Value) : Prop := z = .pointer none ∨ ∃ g, z = ptr g ∧ w.heap[g]? = some (.cells #[.pointer none, .int .i64 0, .int .i64 0, .int .i64 0, .map none, .map none] 67 (0, 0))
theorem Nog.upto {w w' : World} {z : Value} (h : Nog w z) (hb : Below w.heap.size w w') : Nog w' z := h.imp id (fun ⟨g, e, q⟩ => ⟨g, e, (hb.block g (Array.getElem?_eq_some_iff.1 q).1).trans q⟩)
theorem gmade_yes {w : World} {gp p : Nat} {c s ep : Int} {wb eb : Nat} (h : Gp w gp p c s ep wb eb) : Calls Tryz.prog 34 #[ptr gp] w fun e w' => e = .returned (.bool true) ∧ w' = w := by
  have c0 := h.c0
  clear h
  go_enter Tryz.func34, Tryz.ntmps34
  go_wp2_with fail
  go_ret
  exact ⟨rfl, rfl⟩
theorem gmade_no {w : World} {z : Value} (h : Nog w z) : Calls Tryz.prog 34 #[z] w fun e w' => e = .returned (.bool false) ∧ w' = w := by
  rcases h with rfl | ⟨g, rfl, hg⟩
  · go_enter Tryz.func34, Tryz.ntmps34
    go_wp2_with fail
    go_ret
    exact ⟨rfl, rfl⟩
  · have c0 : w.cell? ⟨g, 0, none⟩ = some (.pointer none) := by rw [cell_of_row w g 0 _ _ _ hg]; rfl
    clear hg
    go_enter Tryz.func34, Tryz.ntmps34
    go_wp2_with fail
    go_ret
    exact ⟨rfl, rfl⟩
theorem gworld_no {w : World} {z : Value} (h : Nog w z) : Calls Tryz.prog 14 #[z] w fun e w' => e = .returned (.pointer none) ∧ Below w.heap.size w w' := by
  have HM := hide (gmade_no h)
  clear h
  go_enter Tryz.func14, Tryz.ntmps14
  go_wp2_with fail
  refine HM.out.mono ?_
  rintro e w1 ⟨rfl, rfl⟩
  go_wp2_with fail
  go_ret
  exact ⟨rfl, Below.refl _ _⟩
theorem gepoch_no {w : World} {z : Value} (h : Nog w z) : Calls Tryz.prog 15 #[z] w fun e w' => e = .returned (.int .i64 0) ∧ Below w.heap.size w w' := by
  have HM := hide (gmade_no h)
  clear h
  go_enter Tryz.func15, Tryz.ntmps15
  go_wp2_with fail
  refine HM.out.mono ?_
  rintro e w1 ⟨rfl, rfl⟩
  go_wp2_with fail
  go_ret
  exact ⟨rfl, Below.refl _ _⟩
theorem gshape_no {w : World} {z : Value} (h : Nog w z) : Calls Tryz.prog 13 #[z] w fun e w' => e = .returned (shv 0 0) ∧ Below w.heap.size w w' := by
  obtain ⟨X, hX⟩ : ∃ X, w.alloc (.cells #[.int .i64 0, .int .i64 0] 27) = X := ⟨_, rfl⟩
  have B0 : Below w.heap.size w X := hX ▸ box1 _ _
  have TX : Two X w.heap.size 0 0 := by rw [← hX]; exact Two.newAt rfl
  have HM := hide (gmade_no (h.upto B0))
  have HX := hide hX
  have hT2 : Below w.heap.size w ((X.setCell ⟨w.heap.size, 0, none⟩ (.int .i64 0)).setCell ⟨w.heap.size, 1, none⟩ (.int .i64 0)) := by
    have T1 : Turns (fun j => j = w.heap.size) X (X.setCell ⟨w.heap.size, 0, none⟩ (.int .i64 0)) := Turns.set (S := fun j => j = w.heap.size) X (p := ⟨w.heap.size, 0, none⟩) rfl _
    have T2 : Turns (fun j => j = w.heap.size) (X.setCell ⟨w.heap.size, 0, none⟩ (.int .i64 0)) ((X.setCell ⟨w.heap.size, 0, none⟩ (.int .i64 0)).setCell ⟨w.heap.size, 1, none⟩ (.int .i64 0)) := Turns.set (S := fun j => j = w.heap.size) _ (p := ⟨w.heap.size, 1, none⟩) rfl _
    exact B0.trans ((T1.trans (T2.mono (fun _ _ e => .inl e))).below (fun k e => by omega) B0.size)
  have HB := hide hT2
  obtain ⟨⟨d0, d1⟩, ⟨f0, f1⟩, -⟩ := TX
  clear hX h B0 hT2
  go_enter Tryz.func13, Tryz.ntmps13
  go_wp2_with (rw [HX.out])
  refine HM.out.mono ?_
  rintro e w1 ⟨rfl, rfl⟩
  go_wp2_with fail
  refine bodyPost_ret (v := shv 0 0) (by simp [results, Tryz.f13, go_sem, *]) rfl ?_
  exact ⟨rfl, HB.out⟩
theorem glen_no {w : World} {z : Value} (h : Nog w z) : Calls Tryz.prog 22 #[z] w fun e w' => e = .returned (.int .i64 0) ∧ Below w.heap.size w w' := by
  have HM := hide (gmade_no h)
  clear h
  go_enter Tryz.func22, Tryz.ntmps22
  go_wp2_with fail
  refine HM.out.mono ?_
  rintro e w1 ⟨rfl, rfl⟩
  go_wp2_with fail
  go_ret
  exact ⟨rfl, Below.refl _ _⟩
theorem glen_yes {w : World} {gp p : Nat} {c s ep : Int} {wb eb : Nat} {KE : List (Int × Int)} {FE : Int → Int → Value} (h : Gp w gp p c s ep wb eb) (hm : MapS nilS w eb KE FE) : Calls Tryz.prog 22 #[ptr gp] w fun e w' => e = .returned (.int .i64 (KE.length : Nat)) ∧ Below w.heap.size w w' := by
  have HM := hide (gmade_yes h)
  have c5 := h.c5
  have hlen := hm.len Tryz.underlying65 3
  clear h hm
  go_enter Tryz.func22, Tryz.ntmps22
  go_wp2_with fail
  refine HM.out.mono ?_
  rintro e w1 ⟨rfl, rfl⟩
  go_wp2_with fail
  go_ret
  exact ⟨rfl, Below.refl _ _⟩
set_option maxRecDepth 100000 in
set_option maxHeartbeats 1000000 in
theorem clone44 {w : World} {v : Value} {L : List E3} (h : RE w v L) (hlen : L.length ≤ 1000000) : Calls Tryz.prog 44 #[v] w fun e w' => ∃ lv, e = .returned lv ∧ RE w' lv L ∧ Below w.heap.size w w' ∧ ∀ g, lv.ownBlock = some g → w.heap.size ≤ g := by
  rcases h.2 with ⟨rfl, h0⟩ | ⟨g, cap, cur, rfl, -, hg, hn, hm, hsz, ht⟩
  · have h1 : L = [] := List.eq_nil_of_length_eq_zero h0
    subst h1
    clear h
    have he : ∀ wx, (binOp .eql 60 (.slice none 0 0) (.slice none 0 0)).run Tryz.prog wx = .ok (.bool true) wx := fun wx => by kernel_rfl
    go_enter Tryz.func44, Tryz.ntmps44
    go_wp2_with fail
    go_ret
    exact ⟨_, rfl, Rw.nil _ _ _ _, Below.refl _ _, fun g e => by cases e⟩
  · obtain ⟨X, hX⟩ : ∃ X, w.alloc (.cells #[] 63) = X := ⟨_, rfl⟩
    have B0 : Below w.heap.size w X := hX ▸ box1 _ _
    have R0 : RE X (.slice (some ⟨w.heap.size, 0, none⟩) 0 0) [] := ⟨rfl, .inr ⟨w.heap.size, 0, #[], rfl, Nat.zero_le _, hX ▸ heap_alloc_new w _, Nat.le_refl _, Nat.zero_le _, rfl, rfl⟩⟩
    obtain ⟨v', w', r1, q1, q2, q3⟩ := add_E R0 (h.upto B0) (by simp; omega)
    obtain ⟨a2, n2, c2, hv2⟩ : ∃ a n c, v' = .slice a n c := by obtain ⟨a, c, e⟩ := slice_E q1; exact ⟨_, _, _, e⟩
    subst hv2
    have HA := hide r1
    have HX := hide hX
    have HE := hide (show RE w' (.slice a2 n2 c2) L ∧ Below w.heap.size w w' ∧ ∀ g, (Value.slice a2 n2 c2).ownBlock = some g → w.heap.size ≤ g from ⟨by simpa using q1, B0.trans (q3.below (fun k e => by cases e; exact Nat.le_refl _) B0.size), fun g e => by
      rcases q2 g e with q | q
      · cases q; exact Nat.le_refl _
      · exact Nat.le_trans B0.size q⟩)
    clear h hX B0 R0 r1 q1 q2 q3 hg hn hm hsz ht
    have he : ∀ wx, (binOp .eql 60 (.slice (some ⟨g, 0, none⟩) L.length cap) (.slice none 0 0)).run Tryz.prog wx = .ok (.bool false) wx := fun wx => by kernel_rfl
    go_enter Tryz.func44, Tryz.ntmps44
    go_wp2_with (first | (rw [HX.out]) | (at_builtin; refine wpList_append_run12 rfl _ _ 60 rfl _ _ rfl rfl HA.out ?_))
    go_ret
    exact ⟨_, rfl, HE.out⟩
set_option maxHeartbeats 1000000 in
theorem gedges_yes {w : World} {gp p : Nat} {c s ep : Int} {wb eb : Nat} {K : List (Int × Int)} {F : Int → Int → Value} (h : Gp w gp p c s ep wb eb) (hm : MapS nilS w eb K F) {x y : Int} (hx : W64 x) (hy : W64 y) {L : List E3} (hL : RE w (F x y) L) (hlen : L.length ≤ 1000000) :
    Calls Tryz.prog 20 #[ptr gp, cel x y] w fun e w' => ∃ lv, e = .returned lv ∧ RE w' lv L ∧ Below w.heap.size w w' ∧ ∀ g, lv.ownBlock = some g → w.heap.size ≤ g := by
  obtain ⟨X, hX⟩ : ∃ X, w.alloc (.cells #[.int .i64 x, .int .i64 y] 47) = X := ⟨_, rfl⟩
  have B0 : Below w.heap.size w X := hX ▸ box1 _ _
  have TX : Two X w.heap.size x y := by rw [← hX]; exact Two.newAt rfl
  have hd : Below X.heap.size X X.drew := ⟨rfl, rfl, rfl, Nat.le_refl _, fun _ _ => rfl⟩
  have HM := hide (gmade_yes (h.upto B0))
  obtain ⟨⟨t0, t1⟩, -, -⟩ := id TX
  obtain ⟨fa, fn, fc, hF⟩ : ∃ a n c, F x y = .slice a n c := by obtain ⟨a, c, e⟩ := slice_E hL; exact ⟨_, _, _, e⟩
  have HC := hide (clone44 (hL.upto (bt B0 hd)) hlen)
  rw [hF] at HC
  have HS : (X.drew.cell? ⟨gp, 5, none⟩ = some (.map (some eb)) ∧ X.drew.cell? ⟨w.heap.size, 0, none⟩ = some (.int .i64 x) ∧ X.drew.cell? ⟨w.heap.size, 1, none⟩ = some (.int .i64 y)) ∧ MapS nilS X.drew eb K F := ⟨⟨((h.upto B0).upto hd).c5, t0, t1⟩, (hm.upto B0).upto hd⟩
  have HX := hide hX
  have HF := hide hF
  have H64 := hide (And.intro hx hy)
  have HB := hide (bt B0 hd)
  clear hX B0 TX hd t0 t1 hL hm h hF hx hy
  go_enter Tryz.func20, Tryz.ntmps20
  go_wp2_with (rw [HX.out])
  refine HM.out.mono ?_
  rintro e w1 ⟨rfl, hw1⟩
  have hw1' := hw1.symm
  subst hw1'
  clear hw1 HM
  go_wp2_with fail
  refine wp_only ?_
  refine wp_region_z (fun wx : World => (wx.cell? ⟨gp, 5, none⟩ = some (.map (some eb)) ∧ wx.cell? ⟨w.heap.size, 0, none⟩ = some (.int .i64 x) ∧ wx.cell? ⟨w.heap.size, 1, none⟩ = some (.int .i64 y)) ∧ MapS nilS wx eb K F) [6, 7] (by kernel_rfl) ?_
  refine anyZ_take 0 8 (v := ptr gp) rfl (by kernel_rfl) (fun _ _ _ h => h.elim) (Or.inl ⟨by rfl, fun wx hx => by obtain ⟨⟨x0, x1, x2⟩, -⟩ := hx; clear HS; go_simp⟩) HS ?_
  try simp only [Act.put, List.getElem_toArray, List.getElem_cons_zero, List.getElem_cons_succ, List.setIfInBounds_toArray, List.set_cons_zero, List.set_cons_succ]
  refine anyZ_take 1 8 (v := ptr gp) rfl (by kernel_rfl) (fun _ _ _ h => h.elim) (Or.inl ⟨by rfl, fun wx hx => by obtain ⟨⟨x0, x1, x2⟩, -⟩ := hx; clear HS; go_simp⟩) HS ?_
  try simp only [Act.put, List.getElem_toArray, List.getElem_cons_zero, List.getElem_cons_succ, List.setIfInBounds_toArray, List.set_cons_zero, List.set_cons_succ]
  refine anyZ_take 2 8 (v := .pointer (some ⟨gp, 5, none⟩)) rfl (by kernel_rfl) (fun _ _ _ h => h.elim) (Or.inl ⟨by rfl, fun wx hx => by obtain ⟨⟨x0, x1, x2⟩, -⟩ := hx; clear HS; go_simp⟩) HS ?_
  try simp only [Act.put, List.getElem_toArray, List.getElem_cons_zero, List.getElem_cons_succ, List.setIfInBounds_toArray, List.set_cons_zero, List.set_cons_succ]
  refine anyZ_take 3 8 (v := .map (some eb)) rfl (by kernel_rfl) (fun _ _ _ h => h.elim) (Or.inl ⟨by rfl, fun wx hx => by obtain ⟨⟨x0, x1, x2⟩, -⟩ := hx; clear HS; go_simp⟩) HS ?_
  try simp only [Act.put, List.getElem_toArray, List.getElem_cons_zero, List.getElem_cons_succ, List.setIfInBounds_toArray, List.set_cons_zero, List.set_cons_succ]
  refine anyZ_take 4 8 (v := cel x y) rfl (by kernel_rfl) (fun _ _ _ h => h.elim) (Or.inl ⟨by rfl, fun wx hx => by obtain ⟨⟨x0, x1, x2⟩, -⟩ := hx; clear HS; go_simp⟩) HS ?_
  try simp only [Act.put, List.getElem_toArray, List.getElem_cons_zero, List.getElem_cons_succ, List.setIfInBounds_toArray, List.set_cons_zero, List.set_cons_succ]
  refine anyZ_take 5 8 (v := .slice fa fn fc) rfl (by kernel_rfl) (fun _ _ _ h => h.elim) (Or.inl ⟨by rfl, fun wx hx => by rw [← HF.out]; exact run_look Tryz.underlying65 (by kernel_rfl) H64.out.1 H64.out.2 (by rfl) (by rfl) (by rfl) hx.2⟩) HS ?_
  try simp only [Act.put, List.getElem_toArray, List.getElem_cons_zero, List.getElem_cons_succ, List.setIfInBounds_toArray, List.set_cons_zero, List.set_cons_succ]
  refine anyZ_ready (rs := [6]) (by kernel_rfl) (by simp) ?_
  refine readyZ.call rfl rfl (run_c44 (by rfl) (by rfl) (by simp only [List.map_toArray, List.map_cons, List.map_nil]; rfl)) (HC.out) ?_ readyZ.nil
  rintro e w2 ⟨lv, rfl, q1, q2, q3⟩
  refine ⟨_, rfl, fun h => absurd (by decide) h, ?_⟩
  try simp only [Act.put, List.getElem_toArray, List.getElem_cons_zero, List.getElem_cons_succ, List.setIfInBounds_toArray, List.set_cons_zero, List.set_cons_succ]
  refine anyZ_ready (rs := [7]) (by kernel_rfl) (by simp) ?_
  refine readyZ.cons rfl rfl (run_assign (v := lv) (by rfl) (by rfl)) (fun h => absurd (by decide) h) ?_ readyZ.nil
  try simp only [Act.put, List.getElem_toArray, List.getElem_cons_zero, List.getElem_cons_succ, List.setIfInBounds_toArray, List.set_cons_zero, List.set_cons_succ]
  refine anyZ_done (by kernel_rfl) ?_ _
  dsimp only [Only, Exit.then]
  obtain ⟨la, ln, lc, hlv⟩ : ∃ a n c, lv = .slice a n c := by obtain ⟨a, c, e⟩ := slice_E q1; exact ⟨_, _, _, e⟩
  subst hlv
  have HE := hide (And.intro q1 (And.intro (bt HB.out q2) (show ∀ g, (Value.slice la ln lc).ownBlock = some g → w.heap.size ≤ g from fun g e => Nat.le_trans HB.out.size (q3 g e))))
  clear q1 q2 q3 HS HC
  go_wp2_with fail
  refine bodyPost_ret (v := .slice la ln lc) (by simp [results, Tryz.f20, go_sem]) rfl ?_
  exact ⟨_, rfl, HE.out⟩
set_option maxHeartbeats 1000000 in
theorem gedges_no {w : World} {z : Value} (h : Nog w z) (x y : Int) : Calls Tryz.prog 20 #[z, cel x y] w fun e w' => e = .returned (.slice none 0 0) ∧ Below w.heap.size w w' := by
  obtain ⟨X, hX⟩ : ∃ X, w.alloc (.cells #[.int .i64 x, .int .i64 y] 47) = X := ⟨_, rfl⟩
  have B0 : Below w.heap.size w X := hX ▸ box1 _ _
  have HM := hide (gmade_no (h.upto B0))
  have HX := hide hX
  have HB := hide B0
  clear hX B0 h
  go_enter Tryz.func20, Tryz.ntmps20
  go_wp2_with (rw [HX.out])
  refine HM.out.mono ?_
  rintro e w1 ⟨rfl, rfl⟩
  go_wp2_with fail
  go_ret
  exact ⟨rfl, HB.out⟩
set_option maxHeartbeats 1000000 in
theorem gwithin_no {w : World} {z : Value} (h : Nog w z) (x y : Int) : Calls Tryz.prog 21 #[z, cel x y] w fun e w' => e = .returned (.slice none 0 0) ∧ Below w.heap.size w w' := by
  obtain ⟨X, hX⟩ : ∃ X, w.alloc (.cells #[.int .i64 x, .int .i64 y] 47) = X := ⟨_, rfl⟩
  have B0 : Below w.heap.size w X := hX ▸ box1 _ _
  have HM := hide (gmade_no (h.upto B0))
  have HX := hide hX
  have HB := hide B0
  clear hX B0 h
  go_enter Tryz.func21, Tryz.ntmps21
  go_wp2_with (rw [HX.out])
  refine HM.out.mono ?_
  rintro e w1 ⟨rfl, rfl⟩
  go_wp2_with fail
  go_ret
  exact ⟨rfl, HB.out⟩
end Go.Proofs.YthiafmlgialbnaaGreatDoor
namespace Go.Proofs.YthiafmlgialbnaaGreatDoor
open Go.RowKit Go.Shelf
set_option linter.unusedVariables false
set_option linter.unusedSimpArgs false
end Go.Proofs.YthiafmlgialbnaaGreatDoor
set_option linter.unusedSimpArgs false
namespace Go.Proofs.YthiafmlgialbnaaGreatDoor
open Go.RowKit Go.Shelf
set_option linter.unusedVariables false
theorem st_has {W H : Int} {tl : List Nat} {f : Int → Int → Option Int} {c s u v : Int} (h : stB W H tl f c s u v = true) : has 0 0 W H u v = true := by
  simp only [stB, stU, wi, Bool.and_eq_true] at h
  obtain ⟨⟨hm, h1, -⟩, -⟩ := h
  cases hb : fB c s u v
  · rw [fi_no hb] at hm
    have := ((may_iff _ _ _ _).1 hm).2.1
    rw [fi_no hb] at this
    omega
  · rw [fi_yes hb, fi_yes hb] at h1
    exact h1
theorem st_in {W H : Int} {tl : List Nat} {f : Int → Int → Option Int} {c s : Int} (hW : 1 ≤ W ∧ W ≤ 128) (hH : 1 ≤ H ∧ H ≤ 128) (u v : Int) (h : stB W H tl f c s u v = true) : (0 ≤ u ∧ u < W) ∧ 0 ≤ v ∧ v < H := by
  have := (has_iff _ _ _ _ _ _).1 (st_has h)
  omega
/-- In block b lie n numbers, below 0 ones among them. -/
def Nmz (w : World) (b n : Nat) (C : Nat → Int) : Prop := w.heap[b]? = some (.cells ((List.range n).map (fun k => Value.int .i64 (C k))).toArray 3 (0, 0))
section
variable {w w' : World} {b n : Nat} {C C' : Nat → Int}
end
def cntP (N : Nat) (P : Nat → Bool) : Nat := ((List.range N).filter P).length
/-- How many have no number yet. -/
def zC (N : Nat) (C : Nat → Int) : Nat := cntP N (fun k => decide (C k < 0))
/-- The sum of all, those without a number counting as more than any. -/
def sC : Nat → (Nat → Int) → Nat
  | 0, _ => 0
  | N + 1, C => sC N C + (if C N < 0 then 20001 else (C N).toNat)
/-- The sum of a block's numbers. -/
def vN : Value → Nat
  | .int _ z => if z < 0 then 20001 else z.toNat
  | _ => 0
def sW (w : World) (b : Nat) : Nat := match w.heap[b]? with
  | some (.cells c _ _) => (c.toList.map vN).sum
  | _ => 0
def flag : Value → Nat
  | .bool true => 1
  | _ => 0
section
variable {W H : Int} {tl : List Nat} {f : Int → Int → Option Int} {c s ix iy : Int} {rw rh : Nat}
/-- The cell at a place of the list. -/
def cl (ix iy : Int) (rw : Nat) (j : Nat) : Int × Int := (ix + ((j % rw : Nat) : Int), iy + ((j / rw : Nat) : Int))
/-- What the rounds keep. -/
structure Bf (W H : Int) (tl : List Nat) (f : Int → Int → Option Int) (c s ix iy : Int) (rw rh tg : Nat) (C : Nat → Int) : Prop where
  c0 : C tg = 0
  ge : ∀ i, i < rw * rh → -1 ≤ C i
  wk : ∀ i, i < rw * rh → 0 ≤ C i → Wk (stepR W H tl f c s ix iy rw rh) (cl ix iy rw tg) (cl ix iy rw i) (C i).toNat
  bd : ∀ i, i < rw * rh → 0 ≤ C i → C i + 14 * (zC (rw * rh) C : Nat) + 14 ≤ 14 * (rw * rh : Nat)
variable {tg : Nat} {C : Nat → Int}
/-- Nothing turns at place i in direction d. -/
def Fn (W H : Int) (tl : List Nat) (f : Int → Int → Option Int) (c s ix iy : Int) (rw rh : Nat) (C : Nat → Int) (i d : Nat) : Prop := 0 ≤ C i → ∀ k, k < rw * rh → lg (stB W H tl f c s) (cl ix iy rw i).1 (cl ix iy rw i).2 (d : Nat) = true → cl ix iy rw k = ((cl ix iy rw i).1 + dX d, (cl ix iy rw i).2 + dY d) → 0 ≤ C k ∧ C k ≤ C i + co (d : Nat)
end
end Go.Proofs.YthiafmlgialbnaaGreatDoor
set_option linter.unusedSimpArgs false
namespace Go.Proofs.YthiafmlgialbnaaGreatDoor
open Go.RowKit Go.Shelf
set_option linter.unusedVariables false
set_option maxRecDepth 100000
def tl128 : List Nat := List.replicate 128 0
theorem make128 (w : World) : (Instr.makeSlice 22 (.int .i64 128) (.int .i64 128)).run Tryz.prog w = .ok (.slice (some ⟨w.heap.size, 0, none⟩) 128 128) (w.alloc (.cells (tl128.map (fun n => Value.int .u8 (n : Nat))).toArray 5)) := by kernel_rfl
theorem made128 (w : World) : Tls (w.alloc (.cells (tl128.map (fun n => Value.int .u8 (n : Nat))).toArray 5)) (.slice (some ⟨w.heap.size, 0, none⟩) 128 128) tl128 :=
  ⟨rfl, .inr ⟨w.heap.size, 128, _, rfl, Nat.zero_le _, heap_alloc_new w _, Nat.le_refl _, by decide, rfl, rfl⟩⟩
theorem mt128 : mt 16 8 tl128 = true := by kernel_rfl
theorem lt128 : ∀ x ∈ tl128, x < 256 := by decide
theorem new128 (w : World) : Calls Tryz.prog 23 #[mp 16 8 (.slice (some ⟨w.heap.size, 0, none⟩) 128 128) (.slice none 0 0)] (w.alloc (.cells (tl128.map (fun n => Value.int .u8 (n : Nat))).toArray 5))
    fun e w' => ∃ p, e = .returned (.tuple #[ptr p, .int .i64 0]) ∧ Wn w' p 16 8 tl128 (whoL []) ∧ Below w.heap.size w w' := by
  refine (new_good 16 8 _ (.slice none 0 0) tl128 [] _ (made128 w).r lt128 (BdR.nil _) mt128).mono ?_
  rintro e w' (⟨-, p, he, hm⟩ | ⟨h, -⟩)
  · have := hm.wn mt128 lt128
    exact ⟨p, he, this.1, bt (box1 _ _) this.2⟩
  · cases h
set_option maxHeartbeats 1000000 in
theorem epoch_is {w : World} {q n : Nat} (h : Ep w q n) : Calls Tryz.prog 18 #[ptr q] w fun e w' => e = .returned (.int .i64 (n : Nat)) ∧ w' = w := by
  obtain ⟨W, H, tv, bv, bm, a, cap, hd⟩ := h
  have c6 : w.cell? ⟨q, 6, none⟩ = some (.map (some bm)) := hd.c 6
  have HM := hide (made_yes q bm w c6)
  have c7 : w.cell? ⟨q, 7, none⟩ = some (.slice a n cap) := hd.c 7
  clear hd c6
  go_enter Tryz.func18, Tryz.ntmps18
  go_wp2_with fail
  refine HM.out.mono ?_
  rintro e w1 ⟨rfl, rfl⟩
  go_wp2_with fail
  go_ret
  exact ⟨rfl, rfl⟩
abbrev S128 : Int → Int → Bool := stB 16 8 tl128 (whoL []) 0 1
theorem ac0 : acL S128 16 8 0 0 = [⟨7, 3, 8, 3⟩] := by kernel_rfl
theorem ac1 : acL S128 16 8 1 0 = [⟨8, 3, 7, 3⟩] := by kernel_rfl
theorem nd0 (q : Int × Int) : Nd S128 16 8 0 0 q ↔ q = (7, 3) := by
  unfold Nd
  rw [ac0]
  simp [Q4.A, eq_comm]
theorem nd1 (q : Int × Int) : Nd S128 16 8 1 0 q ↔ q = (8, 3) := by
  unfold Nd
  rw [ac1]
  simp [Q4.A, eq_comm]
theorem cl128 (k : Int × Int) : rB 16 8 k.1 k.2 = true ↔ k = (0, 0) ∨ k = (1, 0) := by
  obtain ⟨x, y⟩ := k
  rw [rB_iff (by omega) (by omega)]
  simp only [Prod.mk.injEq]
  omega
/-- What that graph's lists are. -/
theorem g128 {LW : Int × Int → List (Int × Int)} {KE : List (Int × Int)} {LE : Int × Int → List E3} (h : GD 16 8 tl128 (whoL []) 0 1 (fun k => rB 16 8 k.1 k.2 = true) LW KE LE) (hn : KE.Nodup) : KE.length = 2 ∧ (LE (7, 3)).length = 1 := by
  have hm : ∀ q, q ∈ KE ↔ q ∈ [((7 : Int), (3 : Int)), (8, 3)] := fun q => by
    rw [h.fc]
    constructor
    · intro hq
      have hb := h.fb _ q hq
      have hr : rB 16 8 (clu q).1 (clu q).2 = true := in_rB (by omega) (by omega) hb.2
      have hN := (h.fa _ hr).2 q
      rw [hN] at hq
      rcases (cl128 _).1 hr with e | e
      · rw [e] at hq; rw [(nd0 q).1 hq]; simp
      · rw [e] at hq; rw [(nd1 q).1 hq]; simp
    · intro hq
      simp only [List.mem_cons, List.not_mem_nil, or_false] at hq
      rcases hq with rfl | rfl
      · exact ((h.fa (0, 0) (by decide)).2 _).2 ((nd0 _).2 rfl)
      · exact ((h.fa (1, 0) (by decide)).2 _).2 ((nd1 _).2 rfl)
  refine ⟨?_, ?_⟩
  · exact ((List.perm_ext_iff_of_nodup hn (by decide)).2 hm).length_eq
  · have hE : IsE 16 8 tl128 (whoL []) 0 1 0 0 (7, 3) (LE (7, 3)) := h.fd (7, 3) (by decide) ((hm _).2 (by simp))
    have : LE (7, 3) = [⟨8, 3, 10⟩] := by
      refine upE_one hE.1 (List.pairwise_singleton _ _) (fun e => ?_)
      rw [hE.2]
      unfold Ed
      rw [show acL (stB 16 8 tl128 (whoL []) 0 1) 16 8 0 0 = [⟨7, 3, 8, 3⟩] from ac0]
      constructor
      · rintro (⟨t, ht, -, rfl⟩ | ⟨h1, h2, -⟩)
        · simp at ht; subst ht; simp
        · exact absurd ((nd0 _).1 h1) h2
      · intro he
        simp at he
        subst he
        exact .inl ⟨_, List.mem_singleton.2 rfl, rfl, rfl⟩
    rw [this]
    rfl
set_option maxHeartbeats 4000000 in
theorem awake_is (w : World) (hg : Grnd w) (ho : Offs w) : Calls Tryz.prog 7 #[] w fun e w' => e = .returned (.bool true) ∧ Below w.heap.size w w' := by
  have hmk := make128 w
  have HN := hide (new128 w)
  have HG := hide hg
  have HO := hide ho
  clear hg ho
  go_enter Tryz.func7, Tryz.ntmps7
  go_wp2_with fail
  refine HN.out.mono ?_
  rintro e w1 ⟨p, rfl, hw1, hb1⟩
  have HA := hide (gnew_good (w := w1) (c := 0) (s := 1) (ep := 0) ⟨hw1.1, HG.out.kept hb1, HO.out.kept hb1⟩ (fun u v h => st_in (by omega) (by omega) u v h) (by decide) (fun wx q => epoch_is (hw1.2.kept q)))
  have Hb1 := hide hb1
  clear hmk HN hw1 hb1 HG HO
  go_wp2_with fail
  refine HA.out.mono ?_
  rintro e w2 ⟨gp, wb, eb, rfl, ⟨KW, LW, KE, LE, g1, g2, -⟩, hb2, -⟩
  obtain ⟨FE, m1, m2⟩ := g1.em
  obtain ⟨z1, z2⟩ := g128 g2 m1.nodup
  have HL := hide (glen_yes g1.g m1)
  rw [z1] at HL
  have HE : Hid (∀ wx, Below w2.heap.size w2 wx → Calls Tryz.prog 20 #[ptr gp, cel 7 3] wx fun e w' => ∃ lv, e = .returned lv ∧ RE w' lv (LE (7, 3)) ∧ Below wx.heap.size wx w' ∧ ∀ g, lv.ownBlock = some g → wx.heap.size ≤ g) := hide fun wx q => gedges_yes (g1.g.upto q) (m1.upto q) (w64_of (by omega)) (w64_of (by omega)) ((m2 7 3).upto q) (by omega)
  have Hb2 := hide (bt Hb1.out hb2)
  have Hz := hide z2
  clear g1 g2 m1 m2 z1 z2 hb2 HA Hb1
  go_wp2_with fail
  refine HL.out.mono ?_
  rintro e w3 ⟨rfl, hb3⟩
  have HE3 := hide (HE.out w3 hb3)
  have Hb3 := hide (bt Hb2.out hb3)
  clear hb3 HL HE Hb2
  go_wp2_with fail
  refine HE3.out.mono ?_
  rintro e w4 ⟨lv, rfl, q1, q2, -⟩
  obtain ⟨la, lc, hlv⟩ := slice_E q1
  rw [Hz.out] at hlv
  subst hlv
  have Hb4 := hide (bt Hb3.out q2)
  clear q1 q2 HE3 Hb3
  go_wp2_with fail
  go_ret
  exact ⟨rfl, Hb4.out⟩
end Go.Proofs.YthiafmlgialbnaaGreatDoor
