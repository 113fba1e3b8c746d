/-
  What a graph tells: of a node, of a cluster, of itself; and one that nobody made. The document's Dir and Cost, its Steps, Legal and Cost of a path. The document's Costs over a rectangle: what its rounds keep, and what holds where nothing turns any more. A plain of two clusters has two nodes, each with one edge.
-/
import Derived.Test.YthiafmlgialbnaaGreatDoorGnew
import Derived.Test.YthiafmlgialbnaaGreatDoorGSt
import Derived.Test.YthiafmlgialbnaaGreatDoorPc
import Derived.Test.YthiafmlgialbnaaGreatDoorAwake
set_option linter.unusedSimpArgs false
namespace Go.Proofs.YthiafmlgialbnaaGreatDoor
open Go.RowKit Go.Shelf
set_option linter.unusedVariables false
theorem run_c44 {ev : Operand → Value} {o : Oper} {w : World} {ar : Array Operand} {ts : Array TypeId} {vs : Array Value} (hop : o.op = .call { callee := .value (.func 44), args := ar, argTypes := ts }) (hf : ev (.func 44) = .func (.func 44) #[] #[]) (hvs : ar.map ev = vs) : (execOp ev o).run Tryz.prog w = .ok (.enter 44 vs) w := by
  unfold execOp
  simp only [hop, resolve, hf, hvs]
  go_simp
theorem run_c45 {ev : Operand → Value} {o : Oper} {w : World} {ar : Array Operand} {ts : Array TypeId} {vs : Array Value} (hop : o.op = .call { callee := .value (.func 45), args := ar, argTypes := ts }) (hf : ev (.func 45) = .func (.func 45) #[] #[]) (hvs : ar.map ev = vs) : (execOp ev o).run Tryz.prog w = .ok (.enter 45 vs) w := by
  unfold execOp
  simp only [hop, resolve, hf, hvs]
  go_simp
/-- A graph that nobody made: none, or the zero one. -/
def Nog (w : World) (z : Value) : Prop := z = .pointer none ∨ ∃ g, z = ptr g ∧ w.heap[g]? = some (.cells #[.pointer none, .int .i64 0, .int .i64 0, .int .i64 0, .map none, .map none] 67 (0, 0))
theorem Nog.upto {w w' : World} {z : Value} (h : Nog w z) (hb : Below w.heap.size w w') : Nog w' z := h.imp id (fun ⟨g, e, q⟩ => ⟨g, e, (hb.block g (Array.getElem?_eq_some_iff.1 q).1).trans q⟩)
theorem gmade_yes {w : World} {gp p : Nat} {c s ep : Int} {wb eb : Nat} (h : Gp w gp p c s ep wb eb) : Calls Tryz.prog 34 #[ptr gp] w fun e w' => e = .returned (.bool true) ∧ w' = w := by
  have c0 := h.c0
  clear h
  go_enter Tryz.func34, Tryz.ntmps34
  go_wp2_with fail
  go_ret
  exact ⟨rfl, rfl⟩
theorem gmade_no {w : World} {z : Value} (h : Nog w z) : Calls Tryz.prog 34 #[z] w fun e w' => e = .returned (.bool false) ∧ w' = w := by
  rcases h with rfl | ⟨g, rfl, hg⟩
  · go_enter Tryz.func34, Tryz.ntmps34
    go_wp2_with fail
    go_ret
    exact ⟨rfl, rfl⟩
  · have c0 : w.cell? ⟨g, 0, none⟩ = some (.pointer none) := by rw [cell_of_row w g 0 _ _ _ hg]; rfl
    clear hg
    go_enter Tryz.func34, Tryz.ntmps34
    go_wp2_with fail
    go_ret
    exact ⟨rfl, rfl⟩
theorem gworld_yes {w : World} {gp p : Nat} {c s ep : Int} {wb eb : Nat} (h : Gp w gp p c s ep wb eb) : Calls Tryz.prog 14 #[ptr gp] w fun e w' => e = .returned (ptr p) ∧ Below w.heap.size w w' := by
  have HM := hide (gmade_yes h)
  have c0 := h.c0
  clear h
  go_enter Tryz.func14, Tryz.ntmps14
  go_wp2_with fail
  refine HM.out.mono ?_
  rintro e w1 ⟨rfl, rfl⟩
  go_wp2_with fail
  go_ret
  exact ⟨rfl, Below.refl _ _⟩
theorem gworld_no {w : World} {z : Value} (h : Nog w z) : Calls Tryz.prog 14 #[z] w fun e w' => e = .returned (.pointer none) ∧ Below w.heap.size w w' := by
  have HM := hide (gmade_no h)
  clear h
  go_enter Tryz.func14, Tryz.ntmps14
  go_wp2_with fail
  refine HM.out.mono ?_
  rintro e w1 ⟨rfl, rfl⟩
  go_wp2_with fail
  go_ret
  exact ⟨rfl, Below.refl _ _⟩
theorem gepoch_yes {w : World} {gp p : Nat} {c s ep : Int} {wb eb : Nat} (h : Gp w gp p c s ep wb eb) : Calls Tryz.prog 15 #[ptr gp] w fun e w' => e = .returned (.int .i64 ep) ∧ Below w.heap.size w w' := by
  have HM := hide (gmade_yes h)
  have c0 := h.c3
  clear h
  go_enter Tryz.func15, Tryz.ntmps15
  go_wp2_with fail
  refine HM.out.mono ?_
  rintro e w1 ⟨rfl, rfl⟩
  go_wp2_with fail
  go_ret
  exact ⟨rfl, Below.refl _ _⟩
theorem gepoch_no {w : World} {z : Value} (h : Nog w z) : Calls Tryz.prog 15 #[z] w fun e w' => e = .returned (.int .i64 0) ∧ Below w.heap.size w w' := by
  have HM := hide (gmade_no h)
  clear h
  go_enter Tryz.func15, Tryz.ntmps15
  go_wp2_with fail
  refine HM.out.mono ?_
  rintro e w1 ⟨rfl, rfl⟩
  go_wp2_with fail
  go_ret
  exact ⟨rfl, Below.refl _ _⟩
theorem gshape_yes {w : World} {gp p : Nat} {c s ep : Int} {wb eb : Nat} (h : Gp w gp p c s ep wb eb) : Calls Tryz.prog 13 #[ptr gp] w fun e w' => e = .returned (shv c s) ∧ Below w.heap.size w w' := by
  obtain ⟨X, hX⟩ : ∃ X, w.alloc (.cells #[.int .i64 0, .int .i64 0] 27) = X := ⟨_, rfl⟩
  have B0 : Below w.heap.size w X := hX ▸ box1 _ _
  have TX : Two X w.heap.size 0 0 := by rw [← hX]; exact Two.newAt rfl
  have hX' := h.upto B0
  have HM := hide (gmade_yes hX')
  have c1 := hX'.c1
  have c2 := hX'.c2
  have HX := hide hX
  have hT2 : Below w.heap.size w ((X.setCell ⟨w.heap.size, 0, none⟩ (.int .i64 c)).setCell ⟨w.heap.size, 1, none⟩ (.int .i64 s)) := by
    have T1 : Turns (fun j => j = w.heap.size) X (X.setCell ⟨w.heap.size, 0, none⟩ (.int .i64 c)) := Turns.set (S := fun j => j = w.heap.size) X (p := ⟨w.heap.size, 0, none⟩) rfl _
    have T2 : Turns (fun j => j = w.heap.size) (X.setCell ⟨w.heap.size, 0, none⟩ (.int .i64 c)) ((X.setCell ⟨w.heap.size, 0, none⟩ (.int .i64 c)).setCell ⟨w.heap.size, 1, none⟩ (.int .i64 s)) := Turns.set (S := fun j => j = w.heap.size) _ (p := ⟨w.heap.size, 1, none⟩) rfl _
    exact B0.trans ((T1.trans (T2.mono (fun _ _ e => .inl e))).below (fun k e => by omega) B0.size)
  have HB := hide hT2
  obtain ⟨⟨d0, d1⟩, ⟨f0, f1⟩, -⟩ := TX
  have hgl := h.lt
  have hne : ¬ gp = w.heap.size := by omega
  clear hX hX' h B0 hT2
  go_enter Tryz.func13, Tryz.ntmps13
  go_wp2_with (rw [HX.out])
  refine HM.out.mono ?_
  rintro e w1 ⟨rfl, rfl⟩
  go_wp2_with fail
  refine bodyPost_ret (v := shv c s) (by simp [results, Tryz.f13, go_sem, *]) rfl ?_
  exact ⟨rfl, HB.out⟩
theorem gshape_no {w : World} {z : Value} (h : Nog w z) : Calls Tryz.prog 13 #[z] w fun e w' => e = .returned (shv 0 0) ∧ Below w.heap.size w w' := by
  obtain ⟨X, hX⟩ : ∃ X, w.alloc (.cells #[.int .i64 0, .int .i64 0] 27) = X := ⟨_, rfl⟩
  have B0 : Below w.heap.size w X := hX ▸ box1 _ _
  have TX : Two X w.heap.size 0 0 := by rw [← hX]; exact Two.newAt rfl
  have HM := hide (gmade_no (h.upto B0))
  have HX := hide hX
  have hT2 : Below w.heap.size w ((X.setCell ⟨w.heap.size, 0, none⟩ (.int .i64 0)).setCell ⟨w.heap.size, 1, none⟩ (.int .i64 0)) := by
    have T1 : Turns (fun j => j = w.heap.size) X (X.setCell ⟨w.heap.size, 0, none⟩ (.int .i64 0)) := Turns.set (S := fun j => j = w.heap.size) X (p := ⟨w.heap.size, 0, none⟩) rfl _
    have T2 : Turns (fun j => j = w.heap.size) (X.setCell ⟨w.heap.size, 0, none⟩ (.int .i64 0)) ((X.setCell ⟨w.heap.size, 0, none⟩ (.int .i64 0)).setCell ⟨w.heap.size, 1, none⟩ (.int .i64 0)) := Turns.set (S := fun j => j = w.heap.size) _ (p := ⟨w.heap.size, 1, none⟩) rfl _
    exact B0.trans ((T1.trans (T2.mono (fun _ _ e => .inl e))).below (fun k e => by omega) B0.size)
  have HB := hide hT2
  obtain ⟨⟨d0, d1⟩, ⟨f0, f1⟩, -⟩ := TX
  clear hX h B0 hT2
  go_enter Tryz.func13, Tryz.ntmps13
  go_wp2_with (rw [HX.out])
  refine HM.out.mono ?_
  rintro e w1 ⟨rfl, rfl⟩
  go_wp2_with fail
  refine bodyPost_ret (v := shv 0 0) (by simp [results, Tryz.f13, go_sem, *]) rfl ?_
  exact ⟨rfl, HB.out⟩
theorem glen_no {w : World} {z : Value} (h : Nog w z) : Calls Tryz.prog 22 #[z] w fun e w' => e = .returned (.int .i64 0) ∧ Below w.heap.size w w' := by
  have HM := hide (gmade_no h)
  clear h
  go_enter Tryz.func22, Tryz.ntmps22
  go_wp2_with fail
  refine HM.out.mono ?_
  rintro e w1 ⟨rfl, rfl⟩
  go_wp2_with fail
  go_ret
  exact ⟨rfl, Below.refl _ _⟩
theorem glen_yes {w : World} {gp p : Nat} {c s ep : Int} {wb eb : Nat} {KE : List (Int × Int)} {FE : Int → Int → Value} (h : Gp w gp p c s ep wb eb) (hm : MapS nilS w eb KE FE) : Calls Tryz.prog 22 #[ptr gp] w fun e w' => e = .returned (.int .i64 (KE.length : Nat)) ∧ Below w.heap.size w w' := by
  have HM := hide (gmade_yes h)
  have c5 := h.c5
  have hlen := hm.len Tryz.underlying65 3
  clear h hm
  go_enter Tryz.func22, Tryz.ntmps22
  go_wp2_with fail
  refine HM.out.mono ?_
  rintro e w1 ⟨rfl, rfl⟩
  go_wp2_with fail
  go_ret
  exact ⟨rfl, Below.refl _ _⟩
set_option maxRecDepth 100000 in
set_option maxHeartbeats 1000000 in
theorem clone44 {w : World} {v : Value} {L : List E3} (h : RE w v L) (hlen : L.length ≤ 1000000) : Calls Tryz.prog 44 #[v] w fun e w' => ∃ lv, e = .returned lv ∧ RE w' lv L ∧ Below w.heap.size w w' ∧ ∀ g, lv.ownBlock = some g → w.heap.size ≤ g := by
  rcases h.2 with ⟨rfl, h0⟩ | ⟨g, cap, cur, rfl, -, hg, hn, hm, hsz, ht⟩
  · have h1 : L = [] := List.eq_nil_of_length_eq_zero h0
    subst h1
    clear h
    have he : ∀ wx, (binOp .eql 60 (.slice none 0 0) (.slice none 0 0)).run Tryz.prog wx = .ok (.bool true) wx := fun wx => by kernel_rfl
    go_enter Tryz.func44, Tryz.ntmps44
    go_wp2_with fail
    go_ret
    exact ⟨_, rfl, Rw.nil _ _ _ _, Below.refl _ _, fun g e => by cases e⟩
  · obtain ⟨X, hX⟩ : ∃ X, w.alloc (.cells #[] 63) = X := ⟨_, rfl⟩
    have B0 : Below w.heap.size w X := hX ▸ box1 _ _
    have R0 : RE X (.slice (some ⟨w.heap.size, 0, none⟩) 0 0) [] := ⟨rfl, .inr ⟨w.heap.size, 0, #[], rfl, Nat.zero_le _, hX ▸ heap_alloc_new w _, Nat.le_refl _, Nat.zero_le _, rfl, rfl⟩⟩
    obtain ⟨v', w', r1, q1, q2, q3⟩ := add_E R0 (h.upto B0) (by simp; omega)
    obtain ⟨a2, n2, c2, hv2⟩ : ∃ a n c, v' = .slice a n c := by obtain ⟨a, c, e⟩ := slice_E q1; exact ⟨_, _, _, e⟩
    subst hv2
    have HA := hide r1
    have HX := hide hX
    have HE := hide (show RE w' (.slice a2 n2 c2) L ∧ Below w.heap.size w w' ∧ ∀ g, (Value.slice a2 n2 c2).ownBlock = some g → w.heap.size ≤ g from ⟨by simpa using q1, B0.trans (q3.below (fun k e => by cases e; exact Nat.le_refl _) B0.size), fun g e => by
      rcases q2 g e with q | q
      · cases q; exact Nat.le_refl _
      · exact Nat.le_trans B0.size q⟩)
    clear h hX B0 R0 r1 q1 q2 q3 hg hn hm hsz ht
    have he : ∀ wx, (binOp .eql 60 (.slice (some ⟨g, 0, none⟩) L.length cap) (.slice none 0 0)).run Tryz.prog wx = .ok (.bool false) wx := fun wx => by kernel_rfl
    go_enter Tryz.func44, Tryz.ntmps44
    go_wp2_with (first | (rw [HX.out]) | (at_builtin; refine wpList_append_run12 rfl _ _ 60 rfl _ _ rfl rfl HA.out ?_))
    go_ret
    exact ⟨_, rfl, HE.out⟩
set_option maxRecDepth 100000 in
set_option maxHeartbeats 1000000 in
theorem clone45 {w : World} {v : Value} {L : List (Int × Int)} (h : RC w v L) (hlen : L.length ≤ 1000000) : Calls Tryz.prog 45 #[v] w fun e w' => ∃ lv, e = .returned lv ∧ RC w' lv L ∧ Below w.heap.size w w' ∧ ∀ g, lv.ownBlock = some g → w.heap.size ≤ g := by
  rcases h.2 with ⟨rfl, h0⟩ | ⟨g, cap, cur, rfl, -, hg, hn, hm, hsz, ht⟩
  · have h1 : L = [] := List.eq_nil_of_length_eq_zero h0
    subst h1
    clear h
    have he : ∀ wx, (binOp .eql 68 (.slice none 0 0) (.slice none 0 0)).run Tryz.prog wx = .ok (.bool true) wx := fun wx => by kernel_rfl
    go_enter Tryz.func45, Tryz.ntmps45
    go_wp2_with fail
    go_ret
    exact ⟨_, rfl, Rw.nil _ _ _ _, Below.refl _ _, fun g e => by cases e⟩
  · obtain ⟨X, hX⟩ : ∃ X, w.alloc (.cells #[] 47) = X := ⟨_, rfl⟩
    have B0 : Below w.heap.size w X := hX ▸ box1 _ _
    have R0 : RC X (.slice (some ⟨w.heap.size, 0, none⟩) 0 0) [] := ⟨rfl, .inr ⟨w.heap.size, 0, #[], rfl, Nat.zero_le _, hX ▸ heap_alloc_new w _, Nat.le_refl _, Nat.zero_le _, rfl, rfl⟩⟩
    obtain ⟨v', w', r1, q1, q2, q3⟩ := add_C R0 (h.upto B0) (by simp; omega)
    obtain ⟨a2, n2, c2, hv2⟩ : ∃ a n c, v' = .slice a n c := by obtain ⟨a, c, e⟩ := slice_C q1; exact ⟨_, _, _, e⟩
    subst hv2
    have HA := hide r1
    have HX := hide hX
    have HE := hide (show RC w' (.slice a2 n2 c2) L ∧ Below w.heap.size w w' ∧ ∀ g, (Value.slice a2 n2 c2).ownBlock = some g → w.heap.size ≤ g from ⟨by simpa using q1, B0.trans (q3.below (fun k e => by cases e; exact Nat.le_refl _) B0.size), fun g e => by
      rcases q2 g e with q | q
      · cases q; exact Nat.le_refl _
      · exact Nat.le_trans B0.size q⟩)
    clear h hX B0 R0 r1 q1 q2 q3 hg hn hm hsz ht
    have he : ∀ wx, (binOp .eql 68 (.slice (some ⟨g, 0, none⟩) L.length cap) (.slice none 0 0)).run Tryz.prog wx = .ok (.bool false) wx := fun wx => by kernel_rfl
    go_enter Tryz.func45, Tryz.ntmps45
    go_wp2_with (first | (rw [HX.out]) | (at_builtin; refine wpList_append_run12 rfl _ _ 68 rfl _ _ rfl rfl HA.out ?_))
    go_ret
    exact ⟨_, rfl, HE.out⟩
set_option maxHeartbeats 1000000 in
theorem gedges_yes {w : World} {gp p : Nat} {c s ep : Int} {wb eb : Nat} {K : List (Int × Int)} {F : Int → Int → Value} (h : Gp w gp p c s ep wb eb) (hm : MapS nilS w eb K F) {x y : Int} (hx : W64 x) (hy : W64 y) {L : List E3} (hL : RE w (F x y) L) (hlen : L.length ≤ 1000000) :
    Calls Tryz.prog 20 #[ptr gp, cel x y] w fun e w' => ∃ lv, e = .returned lv ∧ RE w' lv L ∧ Below w.heap.size w w' ∧ ∀ g, lv.ownBlock = some g → w.heap.size ≤ g := by
  obtain ⟨X, hX⟩ : ∃ X, w.alloc (.cells #[.int .i64 x, .int .i64 y] 47) = X := ⟨_, rfl⟩
  have B0 : Below w.heap.size w X := hX ▸ box1 _ _
  have TX : Two X w.heap.size x y := by rw [← hX]; exact Two.newAt rfl
  have hd : Below X.heap.size X X.drew := ⟨rfl, rfl, rfl, Nat.le_refl _, fun _ _ => rfl⟩
  have HM := hide (gmade_yes (h.upto B0))
  obtain ⟨⟨t0, t1⟩, -, -⟩ := id TX
  obtain ⟨fa, fn, fc, hF⟩ : ∃ a n c, F x y = .slice a n c := by obtain ⟨a, c, e⟩ := slice_E hL; exact ⟨_, _, _, e⟩
  have HC := hide (clone44 (hL.upto (bt B0 hd)) hlen)
  rw [hF] at HC
  have HS : (X.drew.cell? ⟨gp, 5, none⟩ = some (.map (some eb)) ∧ X.drew.cell? ⟨w.heap.size, 0, none⟩ = some (.int .i64 x) ∧ X.drew.cell? ⟨w.heap.size, 1, none⟩ = some (.int .i64 y)) ∧ MapS nilS X.drew eb K F := ⟨⟨((h.upto B0).upto hd).c5, t0, t1⟩, (hm.upto B0).upto hd⟩
  have HX := hide hX
  have HF := hide hF
  have H64 := hide (And.intro hx hy)
  have HB := hide (bt B0 hd)
  clear hX B0 TX hd t0 t1 hL hm h hF hx hy
  go_enter Tryz.func20, Tryz.ntmps20
  go_wp2_with (rw [HX.out])
  refine HM.out.mono ?_
  rintro e w1 ⟨rfl, hw1⟩
  have hw1' := hw1.symm
  subst hw1'
  clear hw1 HM
  go_wp2_with fail
  refine wp_only ?_
  refine wp_region_z (fun wx : World => (wx.cell? ⟨gp, 5, none⟩ = some (.map (some eb)) ∧ wx.cell? ⟨w.heap.size, 0, none⟩ = some (.int .i64 x) ∧ wx.cell? ⟨w.heap.size, 1, none⟩ = some (.int .i64 y)) ∧ MapS nilS wx eb K F) [6, 7] (by kernel_rfl) ?_
  refine anyZ_take 0 8 (v := ptr gp) rfl (by kernel_rfl) (fun _ _ _ h => h.elim) (Or.inl ⟨by rfl, fun wx hx => by obtain ⟨⟨x0, x1, x2⟩, -⟩ := hx; clear HS; go_simp⟩) HS ?_
  try simp only [Act.put, List.getElem_toArray, List.getElem_cons_zero, List.getElem_cons_succ, List.setIfInBounds_toArray, List.set_cons_zero, List.set_cons_succ]
  refine anyZ_take 1 8 (v := ptr gp) rfl (by kernel_rfl) (fun _ _ _ h => h.elim) (Or.inl ⟨by rfl, fun wx hx => by obtain ⟨⟨x0, x1, x2⟩, -⟩ := hx; clear HS; go_simp⟩) HS ?_
  try simp only [Act.put, List.getElem_toArray, List.getElem_cons_zero, List.getElem_cons_succ, List.setIfInBounds_toArray, List.set_cons_zero, List.set_cons_succ]
  refine anyZ_take 2 8 (v := .pointer (some ⟨gp, 5, none⟩)) rfl (by kernel_rfl) (fun _ _ _ h => h.elim) (Or.inl ⟨by rfl, fun wx hx => by obtain ⟨⟨x0, x1, x2⟩, -⟩ := hx; clear HS; go_simp⟩) HS ?_
  try simp only [Act.put, List.getElem_toArray, List.getElem_cons_zero, List.getElem_cons_succ, List.setIfInBounds_toArray, List.set_cons_zero, List.set_cons_succ]
  refine anyZ_take 3 8 (v := .map (some eb)) rfl (by kernel_rfl) (fun _ _ _ h => h.elim) (Or.inl ⟨by rfl, fun wx hx => by obtain ⟨⟨x0, x1, x2⟩, -⟩ := hx; clear HS; go_simp⟩) HS ?_
  try simp only [Act.put, List.getElem_toArray, List.getElem_cons_zero, List.getElem_cons_succ, List.setIfInBounds_toArray, List.set_cons_zero, List.set_cons_succ]
  refine anyZ_take 4 8 (v := cel x y) rfl (by kernel_rfl) (fun _ _ _ h => h.elim) (Or.inl ⟨by rfl, fun wx hx => by obtain ⟨⟨x0, x1, x2⟩, -⟩ := hx; clear HS; go_simp⟩) HS ?_
  try simp only [Act.put, List.getElem_toArray, List.getElem_cons_zero, List.getElem_cons_succ, List.setIfInBounds_toArray, List.set_cons_zero, List.set_cons_succ]
  refine anyZ_take 5 8 (v := .slice fa fn fc) rfl (by kernel_rfl) (fun _ _ _ h => h.elim) (Or.inl ⟨by rfl, fun wx hx => by rw [← HF.out]; exact run_look Tryz.underlying65 (by kernel_rfl) H64.out.1 H64.out.2 (by rfl) (by rfl) (by rfl) hx.2⟩) HS ?_
  try simp only [Act.put, List.getElem_toArray, List.getElem_cons_zero, List.getElem_cons_succ, List.setIfInBounds_toArray, List.set_cons_zero, List.set_cons_succ]
  refine anyZ_ready (rs := [6]) (by kernel_rfl) (by simp) ?_
  refine readyZ.call rfl rfl (run_c44 (by rfl) (by rfl) (by simp only [List.map_toArray, List.map_cons, List.map_nil]; rfl)) (HC.out) ?_ readyZ.nil
  rintro e w2 ⟨lv, rfl, q1, q2, q3⟩
  refine ⟨_, rfl, fun h => absurd (by decide) h, ?_⟩
  try simp only [Act.put, List.getElem_toArray, List.getElem_cons_zero, List.getElem_cons_succ, List.setIfInBounds_toArray, List.set_cons_zero, List.set_cons_succ]
  refine anyZ_ready (rs := [7]) (by kernel_rfl) (by simp) ?_
  refine readyZ.cons rfl rfl (run_assign (v := lv) (by rfl) (by rfl)) (fun h => absurd (by decide) h) ?_ readyZ.nil
  try simp only [Act.put, List.getElem_toArray, List.getElem_cons_zero, List.getElem_cons_succ, List.setIfInBounds_toArray, List.set_cons_zero, List.set_cons_succ]
  refine anyZ_done (by kernel_rfl) ?_ _
  dsimp only [Only, Exit.then]
  obtain ⟨la, ln, lc, hlv⟩ : ∃ a n c, lv = .slice a n c := by obtain ⟨a, c, e⟩ := slice_E q1; exact ⟨_, _, _, e⟩
  subst hlv
  have HE := hide (And.intro q1 (And.intro (bt HB.out q2) (show ∀ g, (Value.slice la ln lc).ownBlock = some g → w.heap.size ≤ g from fun g e => Nat.le_trans HB.out.size (q3 g e))))
  clear q1 q2 q3 HS HC
  go_wp2_with fail
  refine bodyPost_ret (v := .slice la ln lc) (by simp [results, Tryz.f20, go_sem]) rfl ?_
  exact ⟨_, rfl, HE.out⟩
set_option maxHeartbeats 1000000 in
theorem gedges_no {w : World} {z : Value} (h : Nog w z) (x y : Int) : Calls Tryz.prog 20 #[z, cel x y] w fun e w' => e = .returned (.slice none 0 0) ∧ Below w.heap.size w w' := by
  obtain ⟨X, hX⟩ : ∃ X, w.alloc (.cells #[.int .i64 x, .int .i64 y] 47) = X := ⟨_, rfl⟩
  have B0 : Below w.heap.size w X := hX ▸ box1 _ _
  have HM := hide (gmade_no (h.upto B0))
  have HX := hide hX
  have HB := hide B0
  clear hX B0 h
  go_enter Tryz.func20, Tryz.ntmps20
  go_wp2_with (rw [HX.out])
  refine HM.out.mono ?_
  rintro e w1 ⟨rfl, rfl⟩
  go_wp2_with fail
  go_ret
  exact ⟨rfl, HB.out⟩
set_option maxHeartbeats 1000000 in
theorem gwithin_yes {w : World} {gp p : Nat} {c s ep : Int} {wb eb : Nat} {K : List (Int × Int)} {F : Int → Int → Value} (h : Gp w gp p c s ep wb eb) (hm : MapS nilS w wb K F) {x y : Int} (hx : W64 x) (hy : W64 y) {L : List (Int × Int)} (hL : RC w (F x y) L) (hlen : L.length ≤ 1000000) :
    Calls Tryz.prog 21 #[ptr gp, cel x y] w fun e w' => ∃ lv, e = .returned lv ∧ RC w' lv L ∧ Below w.heap.size w w' ∧ ∀ g, lv.ownBlock = some g → w.heap.size ≤ g := by
  obtain ⟨X, hX⟩ : ∃ X, w.alloc (.cells #[.int .i64 x, .int .i64 y] 47) = X := ⟨_, rfl⟩
  have B0 : Below w.heap.size w X := hX ▸ box1 _ _
  have TX : Two X w.heap.size x y := by rw [← hX]; exact Two.newAt rfl
  have hd : Below X.heap.size X X.drew := ⟨rfl, rfl, rfl, Nat.le_refl _, fun _ _ => rfl⟩
  have HM := hide (gmade_yes (h.upto B0))
  obtain ⟨⟨t0, t1⟩, -, -⟩ := id TX
  obtain ⟨fa, fn, fc, hF⟩ : ∃ a n c, F x y = .slice a n c := by obtain ⟨a, c, e⟩ := slice_C hL; exact ⟨_, _, _, e⟩
  have HC := hide (clone45 (hL.upto (bt B0 hd)) hlen)
  rw [hF] at HC
  have HS : (X.drew.cell? ⟨gp, 4, none⟩ = some (.map (some wb)) ∧ X.drew.cell? ⟨w.heap.size, 0, none⟩ = some (.int .i64 x) ∧ X.drew.cell? ⟨w.heap.size, 1, none⟩ = some (.int .i64 y)) ∧ MapS nilS X.drew wb K F := ⟨⟨((h.upto B0).upto hd).c4, t0, t1⟩, (hm.upto B0).upto hd⟩
  have HX := hide hX
  have HF := hide hF
  have H64 := hide (And.intro hx hy)
  have HB := hide (bt B0 hd)
  clear hX B0 TX hd t0 t1 hL hm h hF hx hy
  go_enter Tryz.func21, Tryz.ntmps21
  go_wp2_with (rw [HX.out])
  refine HM.out.mono ?_
  rintro e w1 ⟨rfl, hw1⟩
  have hw1' := hw1.symm
  subst hw1'
  clear hw1 HM
  go_wp2_with fail
  refine wp_only ?_
  refine wp_region_z (fun wx : World => (wx.cell? ⟨gp, 4, none⟩ = some (.map (some wb)) ∧ wx.cell? ⟨w.heap.size, 0, none⟩ = some (.int .i64 x) ∧ wx.cell? ⟨w.heap.size, 1, none⟩ = some (.int .i64 y)) ∧ MapS nilS wx wb K F) [6, 7] (by kernel_rfl) ?_
  refine anyZ_take 0 8 (v := ptr gp) rfl (by kernel_rfl) (fun _ _ _ h => h.elim) (Or.inl ⟨by rfl, fun wx hx => by obtain ⟨⟨x0, x1, x2⟩, -⟩ := hx; clear HS; go_simp⟩) HS ?_
  try simp only [Act.put, List.getElem_toArray, List.getElem_cons_zero, List.getElem_cons_succ, List.setIfInBounds_toArray, List.set_cons_zero, List.set_cons_succ]
  refine anyZ_take 1 8 (v := ptr gp) rfl (by kernel_rfl) (fun _ _ _ h => h.elim) (Or.inl ⟨by rfl, fun wx hx => by obtain ⟨⟨x0, x1, x2⟩, -⟩ := hx; clear HS; go_simp⟩) HS ?_
  try simp only [Act.put, List.getElem_toArray, List.getElem_cons_zero, List.getElem_cons_succ, List.setIfInBounds_toArray, List.set_cons_zero, List.set_cons_succ]
  refine anyZ_take 2 8 (v := .pointer (some ⟨gp, 4, none⟩)) rfl (by kernel_rfl) (fun _ _ _ h => h.elim) (Or.inl ⟨by rfl, fun wx hx => by obtain ⟨⟨x0, x1, x2⟩, -⟩ := hx; clear HS; go_simp⟩) HS ?_
  try simp only [Act.put, List.getElem_toArray, List.getElem_cons_zero, List.getElem_cons_succ, List.setIfInBounds_toArray, List.set_cons_zero, List.set_cons_succ]
  refine anyZ_take 3 8 (v := .map (some wb)) rfl (by kernel_rfl) (fun _ _ _ h => h.elim) (Or.inl ⟨by rfl, fun wx hx => by obtain ⟨⟨x0, x1, x2⟩, -⟩ := hx; clear HS; go_simp⟩) HS ?_
  try simp only [Act.put, List.getElem_toArray, List.getElem_cons_zero, List.getElem_cons_succ, List.setIfInBounds_toArray, List.set_cons_zero, List.set_cons_succ]
  refine anyZ_take 4 8 (v := cel x y) rfl (by kernel_rfl) (fun _ _ _ h => h.elim) (Or.inl ⟨by rfl, fun wx hx => by obtain ⟨⟨x0, x1, x2⟩, -⟩ := hx; clear HS; go_simp⟩) HS ?_
  try simp only [Act.put, List.getElem_toArray, List.getElem_cons_zero, List.getElem_cons_succ, List.setIfInBounds_toArray, List.set_cons_zero, List.set_cons_succ]
  refine anyZ_take 5 8 (v := .slice fa fn fc) rfl (by kernel_rfl) (fun _ _ _ h => h.elim) (Or.inl ⟨by rfl, fun wx hx => by rw [← HF.out]; exact run_look Tryz.underlying64 (by kernel_rfl) H64.out.1 H64.out.2 (by rfl) (by rfl) (by rfl) hx.2⟩) HS ?_
  try simp only [Act.put, List.getElem_toArray, List.getElem_cons_zero, List.getElem_cons_succ, List.setIfInBounds_toArray, List.set_cons_zero, List.set_cons_succ]
  refine anyZ_ready (rs := [6]) (by kernel_rfl) (by simp) ?_
  refine readyZ.call rfl rfl (run_c45 (by rfl) (by rfl) (by simp only [List.map_toArray, List.map_cons, List.map_nil]; rfl)) (HC.out) ?_ readyZ.nil
  rintro e w2 ⟨lv, rfl, q1, q2, q3⟩
  refine ⟨_, rfl, fun h => absurd (by decide) h, ?_⟩
  try simp only [Act.put, List.getElem_toArray, List.getElem_cons_zero, List.getElem_cons_succ, List.setIfInBounds_toArray, List.set_cons_zero, List.set_cons_succ]
  refine anyZ_ready (rs := [7]) (by kernel_rfl) (by simp) ?_
  refine readyZ.cons rfl rfl (run_assign (v := lv) (by rfl) (by rfl)) (fun h => absurd (by decide) h) ?_ readyZ.nil
  try simp only [Act.put, List.getElem_toArray, List.getElem_cons_zero, List.getElem_cons_succ, List.setIfInBounds_toArray, List.set_cons_zero, List.set_cons_succ]
  refine anyZ_done (by kernel_rfl) ?_ _
  dsimp only [Only, Exit.then]
  obtain ⟨la, ln, lc, hlv⟩ : ∃ a n c, lv = .slice a n c := by obtain ⟨a, c, e⟩ := slice_C q1; exact ⟨_, _, _, e⟩
  subst hlv
  have HE := hide (And.intro q1 (And.intro (bt HB.out q2) (show ∀ g, (Value.slice la ln lc).ownBlock = some g → w.heap.size ≤ g from fun g e => Nat.le_trans HB.out.size (q3 g e))))
  clear q1 q2 q3 HS HC
  go_wp2_with fail
  refine bodyPost_ret (v := .slice la ln lc) (by simp [results, Tryz.f21, go_sem]) rfl ?_
  exact ⟨_, rfl, HE.out⟩
set_option maxHeartbeats 1000000 in
theorem gwithin_no {w : World} {z : Value} (h : Nog w z) (x y : Int) : Calls Tryz.prog 21 #[z, cel x y] w fun e w' => e = .returned (.slice none 0 0) ∧ Below w.heap.size w w' := by
  obtain ⟨X, hX⟩ : ∃ X, w.alloc (.cells #[.int .i64 x, .int .i64 y] 47) = X := ⟨_, rfl⟩
  have B0 : Below w.heap.size w X := hX ▸ box1 _ _
  have HM := hide (gmade_no (h.upto B0))
  have HX := hide hX
  have HB := hide B0
  clear hX B0 h
  go_enter Tryz.func21, Tryz.ntmps21
  go_wp2_with (rw [HX.out])
  refine HM.out.mono ?_
  rintro e w1 ⟨rfl, rfl⟩
  go_wp2_with fail
  go_ret
  exact ⟨rfl, HB.out⟩
end Go.Proofs.YthiafmlgialbnaaGreatDoor
namespace Go.Proofs.YthiafmlgialbnaaGreatDoor
open Go.RowKit Go.Shelf
set_option linter.unusedVariables false
set_option linter.unusedSimpArgs false
set_option maxHeartbeats 1000000 in
theorem refcost_any (d : Int) (w : World) : Calls Tryz.prog 147 #[.int .i64 d] w fun e w' => e = .returned (.int .i64 (co d)) ∧ w' = w := by
  cases h : isD d
  · rw [show co d = 0 by simp [co, h]]
    have h' := (isD_not d).1 h
    by_cases h0 : d < 0
    all_goals
      go_enter Tryz.func147, Tryz.ntmps147
      go_wp2
      go_ret
      exact ⟨rfl, rfl⟩
  · obtain ⟨h0, h1⟩ := (isD_iff d).1 h
    by_cases h4 : 4 ≤ d
    · rw [show co d = 14 by simp [co, h, oc, h4]]
      go_enter Tryz.func147, Tryz.ntmps147
      go_wp2
      go_ret
      exact ⟨rfl, rfl⟩
    · rw [show co d = 10 by simp [co, h, oc, h4]]
      go_enter Tryz.func147, Tryz.ntmps147
      go_wp2
      go_ret
      exact ⟨rfl, rfl⟩
theorem co_range (d : Int) : 0 ≤ co d ∧ co d ≤ 14 := by
  unfold co
  split
  · split <;> omega
  · omega
theorem int8 {k : Nat} (h : ¬ k < 8) (h' : k ≤ 8) : k = 8 := by omega
theorem drop_cons' {P : List (Int × Int)} {k : Nat} {q : Int × Int} (h : P[k]? = some q) : P.drop k = q :: P.drop (k + 1) := by
  obtain ⟨hl, hq⟩ := List.getElem?_eq_some_iff.1 h
  rw [List.drop_eq_getElem_cons hl, hq]
theorem lg_neg {S : Int → Int → Bool} {x y d : Int} (h : d < 0) : lg S x y d = false := by
  have h1 : isD d = false := (isD_not d).2 (by omega)
  have : sB x y d = false := sB_no1 h1
  simp [lg, this]
end Go.Proofs.YthiafmlgialbnaaGreatDoor
set_option linter.unusedSimpArgs false
namespace Go.Proofs.YthiafmlgialbnaaGreatDoor
open Go.RowKit Go.Shelf
set_option linter.unusedVariables false
theorem st_has {W H : Int} {tl : List Nat} {f : Int → Int → Option Int} {c s u v : Int} (h : stB W H tl f c s u v = true) : has 0 0 W H u v = true := by
  simp only [stB, stU, wi, Bool.and_eq_true] at h
  obtain ⟨⟨hm, h1, -⟩, -⟩ := h
  cases hb : fB c s u v
  · rw [fi_no hb] at hm
    have := ((may_iff _ _ _ _).1 hm).2.1
    rw [fi_no hb] at this
    omega
  · rw [fi_yes hb, fi_yes hb] at h1
    exact h1
theorem st_in {W H : Int} {tl : List Nat} {f : Int → Int → Option Int} {c s : Int} (hW : 1 ≤ W ∧ W ≤ 128) (hH : 1 ≤ H ∧ H ≤ 128) (u v : Int) (h : stB W H tl f c s u v = true) : (0 ≤ u ∧ u < W) ∧ 0 ≤ v ∧ v < H := by
  have := (has_iff _ _ _ _ _ _).1 (st_has h)
  omega
theorem dims_is {W H : Int} {tl : List Nat} {L : List Bd} (hc : chkC W H tl L = 0) : ∃ wd ht : Nat, W = (wd : Int) ∧ H = (ht : Int) ∧ (1 ≤ wd ∧ wd ≤ 128) ∧ 1 ≤ ht ∧ ht ≤ 128 := by
  have h := (chkC_zero hc).1
  simp only [mt, gs, Bool.and_eq_true, decide_eq_true_eq] at h
  exact ⟨W.toNat, H.toNat, by omega, by omega, by omega, by omega⟩
theorem gS_st {wd ht : Nat} {tl : List Nat} {f : Int → Int → Option Int} {c s : Int} (hd : (1 ≤ wd ∧ wd ≤ 128) ∧ 1 ≤ ht ∧ ht ≤ 128) :
    gS wd ht (fun k => stB wd ht tl f c s ((k % wd : Nat) : Int) ((k / wd : Nat) : Int)) = stB wd ht tl f c s := by
  funext x y
  unfold gS
  by_cases h : (0 ≤ x ∧ x < (wd : Nat)) ∧ 0 ≤ y ∧ y < (ht : Nat)
  · rw [decide_eq_true h, Bool.true_and]
    have e := idx_mod (w := wd) (x := x.toNat) (y := y.toNat) (by omega)
    simp only [e.1, e.2]
    rw [Int.toNat_of_nonneg h.1.1, Int.toNat_of_nonneg h.2.1]
  · rw [decide_eq_false h, Bool.false_and]
    cases hs : stB wd ht tl f c s x y
    · rfl
    · exact absurd (st_in (by omega) (by omega) x y hs) h
/-- What the document's Steps tells. -/
theorem dst_is {w : World} {wd ht N : Nat} {tl : List Nat} {f : Int → Int → Option Int} {c s : Int} {a : Option Addr} {n cap : Nat} (hd : (1 ≤ wd ∧ wd ≤ 128) ∧ 1 ≤ ht ∧ ht ≤ 128) (hN : N = wd * ht)
    (h : Rw 4 1 cB w (.slice a n cap) ((List.range N).map (fun k => stB wd ht tl f c s ((k % wd : Nat) : Int) ((k / wd : Nat) : Int)))) (d : Int) :
    ∀ wx, Below w.heap.size w wx → ∀ x y, Calls Tryz.prog 146 #[gdv wd ht (.slice a n cap), cel x y, .int .i64 d] wx fun e w' => e = .returned (.tuple #[cel (if lg (stB wd ht tl f c s) x y d = true then sX x y d else 0) (if lg (stB wd ht tl f c s) x y d = true then sY x y d else 0), .bool (lg (stB wd ht tl f c s) x y d)]) ∧ Below wx.heap.size wx w' := fun wx q x y => by
  have h1 := gsteps_of (w := wx) (wd := wd) (ht := ht) (iv := .slice a n cap) (gS wd ht (fun k => stB wd ht tl f c s ((k % wd : Nat) : Int) ((k / wd : Nat) : Int))) x y d a n cap rfl (fun wy k u v => gstands_any u v (show Gd wy wd ht N _ _ from (h.upto q).upto k) ⟨hd.1.2, hd.2.2⟩ hN)
  rwa [gS_st hd] at h1
/-- In block b lie n numbers, below 0 ones among them. -/
def Nmz (w : World) (b n : Nat) (C : Nat → Int) : Prop := w.heap[b]? = some (.cells ((List.range n).map (fun k => Value.int .i64 (C k))).toArray 3 (0, 0))
section
variable {w w' : World} {b n : Nat} {C C' : Nat → Int}
theorem Nmz.lt (h : Nmz w b n C) : b < w.heap.size := (Array.getElem?_eq_some_iff.1 h).1
theorem Nmz.kept {S : Nat → Prop} (h : Nmz w b n C) (ht : Turns S w w') (hs : ¬ S b) : Nmz w' b n C := ht.same hs h
theorem Nmz.upto (h : Nmz w b n C) (hb : Below w.heap.size w w') : Nmz w' b n C := (hb.block b h.lt).trans h
theorem Nmz.c (h : Nmz w b n C) {j : Nat} (hj : j < n) : w.cell? ⟨b, j, none⟩ = some (.int .i64 (C j)) := by
  rw [cell_of_row w b j _ _ _ h]; simp [hj]
theorem Nmz.fz (h : Nmz w b n C) (j : Nat) : w.frozen? ⟨b, j, none⟩ = false := by
  have h' : w.heap[b]? = _ := h
  simp [World.frozen?, h']
theorem Nmz.congr (h : Nmz w b n C) (e : ∀ k, k < n → C k = C' k) : Nmz w b n C' := by
  have h' : w.heap[b]? = _ := h
  unfold Nmz
  rw [h', List.map_congr_left (fun k hk => by rw [e k (List.mem_range.1 hk)])]
theorem Nmz.set (h : Nmz w b n C) {j : Nat} (hj : j < n) (x : Int) : Nmz (w.setCell ⟨b, j, none⟩ (.int .i64 x)) b n (fun i => if i = j then x else C i) := by
  have h' : w.heap[b]? = _ := h
  unfold Nmz
  have e : ((List.range n).map (fun k => Value.int .i64 (C k))).set j (.int .i64 x) = (List.range n).map (fun i => Value.int .i64 (if i = j then x else C i)) := by
    refine List.ext_getElem (by simp) (fun i h1 h2 => ?_)
    simp only [List.getElem_set, List.getElem_map, List.getElem_range]
    by_cases hik : j = i
    · subst hik; simp
    · rw [if_neg hik, if_neg (fun e => hik e.symm)]
  simp [World.setCell, Array.getElem?_modify, h', e]
end
def cntP (N : Nat) (P : Nat → Bool) : Nat := ((List.range N).filter P).length
theorem cntP_le (N : Nat) (P : Nat → Bool) : cntP N P ≤ N := by
  have := List.length_filter_le P (List.range N)
  simpa [cntP] using this
theorem cntP_congr {N : Nat} {P Q : Nat → Bool} (h : ∀ i, i < N → P i = Q i) : cntP N P = cntP N Q := by
  unfold cntP
  rw [List.filter_congr (fun i hi => h i (List.mem_range.1 hi))]
theorem cntP_succ (N : Nat) (P : Nat → Bool) : cntP (N + 1) P = cntP N P + (if P N = true then 1 else 0) := by
  unfold cntP
  rw [List.range_succ, List.filter_append, List.length_append]
  cases h : P N <;> simp [h]
/-- A list without doubles that holds just what a question takes has so many. -/
theorem cntP_less {P Q : Nat → Bool} {j : Nat} : ∀ {N : Nat}, j < N → P j = true → Q j = false → (∀ i, i ≠ j → Q i = P i) → cntP N Q + 1 = cntP N P
  | 0, h, _, _, _ => by omega
  | N + 1, h, hp, hq, he => by
    rw [cntP_succ, cntP_succ]
    by_cases e : j = N
    · subst e
      rw [hp, hq, cntP_congr (fun i hi => he i (by omega))]
      simp
    · have := cntP_less (N := N) (by omega) hp hq he
      rw [he N (fun x => e x.symm)]
      omega
/-- How many have no number yet. -/
def zC (N : Nat) (C : Nat → Int) : Nat := cntP N (fun k => decide (C k < 0))
/-- The sum of all, those without a number counting as more than any. -/
def sC : Nat → (Nat → Int) → Nat
  | 0, _ => 0
  | N + 1, C => sC N C + (if C N < 0 then 20001 else (C N).toNat)
theorem sC_congr {C C' : Nat → Int} : ∀ {N : Nat}, (∀ k, k < N → C k = C' k) → sC N C = sC N C'
  | 0, _ => rfl
  | N + 1, h => by
    have := sC_congr (N := N) (fun k hk => h k (by omega))
    simp only [sC, this, h N (by omega)]
theorem sC_set {C : Nat → Int} {j : Nat} {x : Int} : ∀ {N : Nat}, j < N → 0 ≤ x → x ≤ 20000 → (C j < 0 ∨ x < C j) → sC N (fun i => if i = j then x else C i) < sC N C
  | 0, h, _, _, _ => by omega
  | N + 1, h, h0, h1, h2 => by
    by_cases e : j = N
    · subst e
      have := sC_congr (N := j) (C := fun i => if i = j then x else C i) (C' := C) (fun k hk => by rw [if_neg (by omega)])
      simp only [sC, this, if_true]
      rw [if_neg (by omega)]
      split <;> omega
    · have := sC_set (C := C) (N := N) (by omega) h0 h1 h2
      simp only [sC, if_neg (Ne.symm e)]
      omega
theorem sC_le {C : Nat → Int} : ∀ {N : Nat}, (∀ k, k < N → C k ≤ 20000) → sC N C ≤ 20001 * N
  | 0, _ => Nat.le_refl _
  | N + 1, h => by
    have := sC_le (N := N) (fun k hk => h k (by omega))
    have h2 := h N (by omega)
    simp only [sC]
    split <;> omega
/-- The sum of a block's numbers. -/
def vN : Value → Nat
  | .int _ z => if z < 0 then 20001 else z.toNat
  | _ => 0
def sW (w : World) (b : Nat) : Nat := match w.heap[b]? with
  | some (.cells c _ _) => (c.toList.map vN).sum
  | _ => 0
theorem sum_sC (C : Nat → Int) : ∀ n : Nat, (((List.range n).map (fun k => Value.int .i64 (C k))).map vN).sum = sC n C
  | 0 => rfl
  | n + 1 => by
    rw [List.range_succ, List.map_append, List.map_append, List.sum_append, sum_sC C n]
    simp [sC, vN]
theorem sW_of {w : World} {b n : Nat} {C : Nat → Int} (h : Nmz w b n C) : sW w b = sC n C := by
  have h' : w.heap[b]? = _ := h
  unfold sW
  rw [h']
  exact sum_sC C n
def flag : Value → Nat
  | .bool true => 1
  | _ => 0
section
variable {W H : Int} {tl : List Nat} {f : Int → Int → Option Int} {c s ix iy : Int} {rw rh : Nat}
/-- The cell at a place of the list. -/
def cl (ix iy : Int) (rw : Nat) (j : Nat) : Int × Int := (ix + ((j % rw : Nat) : Int), iy + ((j / rw : Nat) : Int))
theorem cl_in {j : Nat} (hj : j < rw * rh) : inB ix iy rw rh (cl ix iy rw j) := by
  have hr : 0 < rw := by
    rcases Nat.eq_zero_or_pos rw with h | h
    · subst h; simp at hj
    · exact h
  have h1 := Nat.mod_lt j hr
  have h2 : j / rw < rh := by rw [Nat.div_lt_iff_lt_mul hr, Nat.mul_comm]; exact hj
  unfold cl inB
  simp only
  generalize j % rw = X at *
  generalize j / rw = Y at *
  omega
theorem cl_ij (ix iy : Int) (hr : 0 < rw) (j : Nat) : ij ix iy rw (cl ix iy rw j).1 (cl ix iy rw j).2 = j := by
  have e := Nat.div_add_mod j rw
  unfold cl ij
  simp only
  generalize j % rw = X at *
  generalize j / rw = Y at *
  rw [show iy + (Y : Int) - iy = Y by omega, show ix + (X : Int) - ix = X by omega]
  have hc : ((rw * Y : Nat) : Int) = (Y : Int) * (rw : Int) := by push_cast; exact Int.mul_comm _ _
  omega
theorem area_nat (rw rh : Nat) : ((rh : Int) * (rw : Int)).toNat = rw * rh := by rw [Int.mul_comm, ← Int.natCast_mul]; rfl
theorem ij_cl {q : Int × Int} (hq : inB ix iy rw rh q) : ij ix iy rw q.1 q.2 < rw * rh ∧ cl ix iy rw (ij ix iy rw q.1 q.2) = q := by
  have hl := ij_lt hq
  rw [area_nat] at hl
  have hr : 0 < rw := by obtain ⟨⟨h1, h2⟩, -⟩ := hq; omega
  exact ⟨hl, ij_inj (cl_in hl) hq (cl_ij ix iy hr _)⟩
/-- A step of the document that stays in the rectangle is one of the search. -/
theorem lg_step {x y : Int} {d : Nat} {iw ih : Int} (hd : d < 8) (hs : stB W H tl f c s x y = true) : (lg (stB W H tl f c s) x y (d : Nat) = true ∧ has ix iy iw ih (x + dX d) (y + dY d) = true) ↔ (inn x y ix iy iw ih d = true ∧ stp W H tl f c s x y (d : Nat) = true) := by
  unfold lg inn stp
  cases hB : sB x y (d : Nat)
  · simp
  · rw [sX_yes hB, sY_yes hB, hs]
    unfold siX siY si0 siB
    rw [hB]
    simp only [Int.toNat_natCast, Bool.true_and]
    cases ho : oc (d : Nat)
    · simp [and_comm]
    · simp only [Bool.not_true, Bool.false_or, if_true, Bool.and_eq_true]
      constructor
      · rintro ⟨⟨h1, h2, h3⟩, h4⟩; exact ⟨h4, h1, h2, h3⟩
      · rintro ⟨h4, h1, h2, h3⟩; exact ⟨⟨h1, h2, h3⟩, h4⟩
/-- What the rounds keep. -/
structure Bf (W H : Int) (tl : List Nat) (f : Int → Int → Option Int) (c s ix iy : Int) (rw rh tg : Nat) (C : Nat → Int) : Prop where
  c0 : C tg = 0
  ge : ∀ i, i < rw * rh → -1 ≤ C i
  wk : ∀ i, i < rw * rh → 0 ≤ C i → Wk (stepR W H tl f c s ix iy rw rh) (cl ix iy rw tg) (cl ix iy rw i) (C i).toNat
  bd : ∀ i, i < rw * rh → 0 ≤ C i → C i + 14 * (zC (rw * rh) C : Nat) + 14 ≤ 14 * (rw * rh : Nat)
variable {tg : Nat} {C : Nat → Int}
theorem Bf.le (h : Bf W H tl f c s ix iy rw rh tg C) {i : Nat} (hi : i < rw * rh) : C i ≤ 14 * (rw * rh : Nat) := by
  by_cases h0 : 0 ≤ C i
  · have := h.bd i hi h0; omega
  · omega
theorem Bf.start (hto : tg < rw * rh) : Bf W H tl f c s ix iy rw rh tg (fun i => if i = tg then 0 else -1) := by
  refine ⟨by simp, fun i _ => by show (-1 : Int) ≤ (if i = tg then 0 else -1); split <;> omega, fun i _ h => ?_, fun i hi h => ?_⟩
  · by_cases e : i = tg
    · subst e; simp only [if_true]; exact .nil _
    · simp only [if_neg e] at h; omega
  · have e : i = tg := by
      by_cases e : i = tg
      · exact e
      · simp only [if_neg e] at h; omega
    subst e
    have hz : zC (rw * rh) (fun j => if j = i then (0 : Int) else -1) + 1 = cntP (rw * rh) (fun _ => true) := cntP_less hi rfl (by simp) (fun j hj => by simp [hj])
    have hN : cntP (rw * rh) (fun _ => true) = rw * rh := by unfold cntP; rw [List.filter_eq_self.2 (fun _ _ => rfl), List.length_range]
    simp only [if_true]
    omega
/-- A cell nearer than was known. -/
theorem Bf.turn (h : Bf W H tl f c s ix iy rw rh tg C) {i k : Nat} {co : Int} (hi : i < rw * rh) (hk : k < rw * rh) (hco : 10 ≤ co ∧ co ≤ 14) (hs : stepR W H tl f c s ix iy rw rh (cl ix iy rw i) (cl ix iy rw k) co.toNat) (h0 : 0 ≤ C i) (hv : C k < 0 ∨ C i + co < C k) : Bf W H tl f c s ix iy rw rh tg (fun j => if j = k then C i + co else C j) := by
  have hkt : k ≠ tg := by
    rintro rfl
    rw [h.c0] at hv
    omega
  have hki : i ≠ k := by
    rintro rfl
    omega
  refine ⟨by rw [if_neg (Ne.symm hkt)]; exact h.c0, fun j hj => ?_, fun j hj hj0 => ?_, fun j hj hj0 => ?_⟩
  · by_cases e : j = k
    · simp only [if_pos e]; omega
    · simp only [if_neg e]; exact h.ge j hj
  · by_cases e : j = k
    · subst e
      simp only [if_true]
      rw [show (C i + co).toNat = (C i).toNat + co.toNat by omega]
      exact (h.wk i hi h0).snoc hs
    · simp only [if_neg e] at hj0 ⊢; exact h.wk j hj hj0
  · have hz : zC (rw * rh) (fun j => if j = k then C i + co else C j) = (if C k < 0 then zC (rw * rh) C - 1 else zC (rw * rh) C) ∧ (C k < 0 → 1 ≤ zC (rw * rh) C) := by
      by_cases hk0 : C k < 0
      · have := cntP_less (P := fun m => decide (C m < 0)) (Q := fun m => decide ((if m = k then C i + co else C m) < 0)) hk (by simp [hk0]) (by simp; omega) (fun m hm => by simp [hm])
        have e1 : zC (rw * rh) (fun j => if j = k then C i + co else C j) + 1 = zC (rw * rh) C := this
        rw [if_pos hk0]
        omega
      · rw [if_neg hk0]
        refine ⟨cntP_congr (fun m _ => ?_), fun h => absurd h hk0⟩
        by_cases e : m = k
        · subst e; simp only [if_true]; rw [decide_eq_false (by omega), decide_eq_false hk0]
        · simp only [if_neg e]
    have hbi := h.bd i hi h0
    by_cases e : j = k
    · subst e
      simp only [if_true]
      rw [hz.1]
      by_cases hk0 : C j < 0
      · rw [if_pos hk0]; have := hz.2 hk0; omega
      · rw [if_neg hk0]
        have hbk := h.bd j hj (by omega)
        omega
    · simp only [if_neg e] at hj0 ⊢
      have := h.bd j hj hj0
      rw [hz.1]
      split <;> omega
/-- Nothing turns at place i in direction d. -/
def Fn (W H : Int) (tl : List Nat) (f : Int → Int → Option Int) (c s ix iy : Int) (rw rh : Nat) (C : Nat → Int) (i d : Nat) : Prop := 0 ≤ C i → ∀ k, k < rw * rh → lg (stB W H tl f c s) (cl ix iy rw i).1 (cl ix iy rw i).2 (d : Nat) = true → cl ix iy rw k = ((cl ix iy rw i).1 + dX d, (cl ix iy rw i).2 + dY d) → 0 ≤ C k ∧ C k ≤ C i + co (d : Nat)
/-- Where nothing turns the list tells how far all cells are. -/
theorem Bf.tbl (h : Bf W H tl f c s ix iy rw rh tg C) (hf : ∀ i, i < rw * rh → ∀ d, d < 8 → Fn W H tl f c s ix iy rw rh C i d) (hto : tg < rw * rh) (h0 : Std W H tl f c s ix iy rw rh (cl ix iy rw tg)) (hN : rw * rh ≤ 16384) :
    Tbl W H tl f c s ix iy rw rh (cl ix iy rw tg) ((List.range (rw * rh)).map C) := by
  have hr : 0 < rw := by
    rcases Nat.eq_zero_or_pos rw with h | h
    · subst h; simp at hto
    · exact h
  have hget : ∀ j, j < rw * rh → ((List.range (rw * rh)).map C)[j]? = some (C j) := fun j hj => by simp [hj]
  have htab : ∀ q g, tab ix iy rw rh ((List.range (rw * rh)).map C) q = some g → ∃ j, j < rw * rh ∧ cl ix iy rw j = q ∧ 0 ≤ C j ∧ (C j).toNat = g := fun q g hq => by
    by_cases hin : inB ix iy rw rh q
    · obtain ⟨e1, e2⟩ := ij_cl hin
      rw [tab_of hin (hget _ e1)] at hq
      split at hq
      · cases hq
      · injection hq with hq
        have := h.ge _ e1
        exact ⟨_, e1, e2, by omega, hq⟩
    · unfold tab at hq; rw [if_neg hin] at hq; cases hq
  have hput : ∀ j, j < rw * rh → 0 ≤ C j → tab ix iy rw rh ((List.range (rw * rh)).map C) (cl ix iy rw j) = some (C j).toNat := fun j hj h0 => by
    rw [tab_of (cl_in hj) (by rw [cl_ij ix iy hr]; exact hget j hj), if_neg (by omega)]
  refine Tbl.of (by simp [area_nat]) (fun m hm => ?_) h0 ⟨?_, fun q g hq => ?_, fun q g hq => .inl ?_⟩
  · obtain ⟨j, hj, rfl⟩ := List.mem_map.1 hm
    have hj := List.mem_range.1 hj
    have := h.ge j hj
    have := h.le hj
    omega
  · rw [hput tg hto (by rw [h.c0]; omega), h.c0]; rfl
  · obtain ⟨j, hj, rfl, h1, rfl⟩ := htab q g hq
    exact h.wk j hj h1
  · obtain ⟨j, hj, rfl, h1, rfl⟩ := htab q g hq
    have hst := ((h.wk j hj h1).toS h0).2
    rintro d w hs
    have hd := stepR_end hs
    obtain ⟨t, t1, t2, rfl, t4⟩ := hs
    have hin : inB ix iy rw rh ((cl ix iy rw j).1 + dX t.val, (cl ix iy rw j).2 + dY t.val) := inn_in t1
    obtain ⟨e1, e2⟩ := ij_cl hin
    obtain ⟨f1, f2⟩ := hf j hj t.val t.isLt h1 _ e1 ((lg_step (ix := ix) (iy := iy) (iw := rw) (ih := rh) t.isLt hst.2).2 ⟨t1, t2⟩).1 e2
    refine ⟨_, by rw [← e2]; exact hput _ e1 f1, ?_⟩
    have := co_pos t
    omega
end
end Go.Proofs.YthiafmlgialbnaaGreatDoor
set_option linter.unusedSimpArgs false
namespace Go.Proofs.YthiafmlgialbnaaGreatDoor
open Go.RowKit Go.Shelf
set_option linter.unusedVariables false
set_option maxRecDepth 100000
def tl128 : List Nat := List.replicate 128 0
theorem make128 (w : World) : (Instr.makeSlice 22 (.int .i64 128) (.int .i64 128)).run Tryz.prog w = .ok (.slice (some ⟨w.heap.size, 0, none⟩) 128 128) (w.alloc (.cells (tl128.map (fun n => Value.int .u8 (n : Nat))).toArray 5)) := by kernel_rfl
theorem made128 (w : World) : Tls (w.alloc (.cells (tl128.map (fun n => Value.int .u8 (n : Nat))).toArray 5)) (.slice (some ⟨w.heap.size, 0, none⟩) 128 128) tl128 :=
  ⟨rfl, .inr ⟨w.heap.size, 128, _, rfl, Nat.zero_le _, heap_alloc_new w _, Nat.le_refl _, by decide, rfl, rfl⟩⟩
theorem mt128 : mt 16 8 tl128 = true := by kernel_rfl
theorem lt128 : ∀ x ∈ tl128, x < 256 := by decide
theorem new128 (w : World) : Calls Tryz.prog 23 #[mp 16 8 (.slice (some ⟨w.heap.size, 0, none⟩) 128 128) (.slice none 0 0)] (w.alloc (.cells (tl128.map (fun n => Value.int .u8 (n : Nat))).toArray 5))
    fun e w' => ∃ p, e = .returned (.tuple #[ptr p, .int .i64 0]) ∧ Wn w' p 16 8 tl128 (whoL []) ∧ Below w.heap.size w w' := by
  refine (new_good 16 8 _ (.slice none 0 0) tl128 [] _ (made128 w).r lt128 (BdR.nil _) mt128).mono ?_
  rintro e w' (⟨-, p, he, hm⟩ | ⟨h, -⟩)
  · have := hm.wn mt128 lt128
    exact ⟨p, he, this.1, bt (box1 _ _) this.2⟩
  · cases h
set_option maxHeartbeats 1000000 in
theorem epoch_is {w : World} {q n : Nat} (h : Ep w q n) : Calls Tryz.prog 18 #[ptr q] w fun e w' => e = .returned (.int .i64 (n : Nat)) ∧ w' = w := by
  obtain ⟨W, H, tv, bv, bm, a, cap, hd⟩ := h
  have c6 : w.cell? ⟨q, 6, none⟩ = some (.map (some bm)) := hd.c 6
  have HM := hide (made_yes q bm w c6)
  have c7 : w.cell? ⟨q, 7, none⟩ = some (.slice a n cap) := hd.c 7
  clear hd c6
  go_enter Tryz.func18, Tryz.ntmps18
  go_wp2_with fail
  refine HM.out.mono ?_
  rintro e w1 ⟨rfl, rfl⟩
  go_wp2_with fail
  go_ret
  exact ⟨rfl, rfl⟩
abbrev S128 : Int → Int → Bool := stB 16 8 tl128 (whoL []) 0 1
theorem ac0 : acL S128 16 8 0 0 = [⟨7, 3, 8, 3⟩] := by kernel_rfl
theorem ac1 : acL S128 16 8 1 0 = [⟨8, 3, 7, 3⟩] := by kernel_rfl
theorem nd0 (q : Int × Int) : Nd S128 16 8 0 0 q ↔ q = (7, 3) := by
  unfold Nd
  rw [ac0]
  simp [Q4.A, eq_comm]
theorem nd1 (q : Int × Int) : Nd S128 16 8 1 0 q ↔ q = (8, 3) := by
  unfold Nd
  rw [ac1]
  simp [Q4.A, eq_comm]
theorem cl128 (k : Int × Int) : rB 16 8 k.1 k.2 = true ↔ k = (0, 0) ∨ k = (1, 0) := by
  obtain ⟨x, y⟩ := k
  rw [rB_iff (by omega) (by omega)]
  simp only [Prod.mk.injEq]
  omega
/-- What that graph's lists are. -/
theorem g128 {LW : Int × Int → List (Int × Int)} {KE : List (Int × Int)} {LE : Int × Int → List E3} (h : GD 16 8 tl128 (whoL []) 0 1 (fun k => rB 16 8 k.1 k.2 = true) LW KE LE) (hn : KE.Nodup) : KE.length = 2 ∧ (LE (7, 3)).length = 1 := by
  have hm : ∀ q, q ∈ KE ↔ q ∈ [((7 : Int), (3 : Int)), (8, 3)] := fun q => by
    rw [h.fc]
    constructor
    · intro hq
      have hb := h.fb _ q hq
      have hr : rB 16 8 (clu q).1 (clu q).2 = true := in_rB (by omega) (by omega) hb.2
      have hN := (h.fa _ hr).2 q
      rw [hN] at hq
      rcases (cl128 _).1 hr with e | e
      · rw [e] at hq; rw [(nd0 q).1 hq]; simp
      · rw [e] at hq; rw [(nd1 q).1 hq]; simp
    · intro hq
      simp only [List.mem_cons, List.not_mem_nil, or_false] at hq
      rcases hq with rfl | rfl
      · exact ((h.fa (0, 0) (by decide)).2 _).2 ((nd0 _).2 rfl)
      · exact ((h.fa (1, 0) (by decide)).2 _).2 ((nd1 _).2 rfl)
  refine ⟨?_, ?_⟩
  · exact ((List.perm_ext_iff_of_nodup hn (by decide)).2 hm).length_eq
  · have hE : IsE 16 8 tl128 (whoL []) 0 1 0 0 (7, 3) (LE (7, 3)) := h.fd (7, 3) (by decide) ((hm _).2 (by simp))
    have : LE (7, 3) = [⟨8, 3, 10⟩] := by
      refine upE_one hE.1 (List.pairwise_singleton _ _) (fun e => ?_)
      rw [hE.2]
      unfold Ed
      rw [show acL (stB 16 8 tl128 (whoL []) 0 1) 16 8 0 0 = [⟨7, 3, 8, 3⟩] from ac0]
      constructor
      · rintro (⟨t, ht, -, rfl⟩ | ⟨h1, h2, -⟩)
        · simp at ht; subst ht; simp
        · exact absurd ((nd0 _).1 h1) h2
      · intro he
        simp at he
        subst he
        exact .inl ⟨_, List.mem_singleton.2 rfl, rfl, rfl⟩
    rw [this]
    rfl
set_option maxHeartbeats 4000000 in
theorem awake_is (w : World) (hg : Grnd w) (ho : Offs w) : Calls Tryz.prog 7 #[] w fun e w' => e = .returned (.bool true) ∧ Below w.heap.size w w' := by
  have hmk := make128 w
  have HN := hide (new128 w)
  have HG := hide hg
  have HO := hide ho
  clear hg ho
  go_enter Tryz.func7, Tryz.ntmps7
  go_wp2_with fail
  refine HN.out.mono ?_
  rintro e w1 ⟨p, rfl, hw1, hb1⟩
  have HA := hide (gnew_good (w := w1) (c := 0) (s := 1) (ep := 0) ⟨hw1.1, HG.out.kept hb1, HO.out.kept hb1⟩ (fun u v h => st_in (by omega) (by omega) u v h) (by decide) (fun wx q => epoch_is (hw1.2.kept q)))
  have Hb1 := hide hb1
  clear hmk HN hw1 hb1 HG HO
  go_wp2_with fail
  refine HA.out.mono ?_
  rintro e w2 ⟨gp, wb, eb, rfl, ⟨KW, LW, KE, LE, g1, g2, -⟩, hb2, -⟩
  obtain ⟨FE, m1, m2⟩ := g1.em
  obtain ⟨z1, z2⟩ := g128 g2 m1.nodup
  have HL := hide (glen_yes g1.g m1)
  rw [z1] at HL
  have HE : Hid (∀ wx, Below w2.heap.size w2 wx → Calls Tryz.prog 20 #[ptr gp, cel 7 3] wx fun e w' => ∃ lv, e = .returned lv ∧ RE w' lv (LE (7, 3)) ∧ Below wx.heap.size wx w' ∧ ∀ g, lv.ownBlock = some g → wx.heap.size ≤ g) := hide fun wx q => gedges_yes (g1.g.upto q) (m1.upto q) (w64_of (by omega)) (w64_of (by omega)) ((m2 7 3).upto q) (by omega)
  have Hb2 := hide (bt Hb1.out hb2)
  have Hz := hide z2
  clear g1 g2 m1 m2 z1 z2 hb2 HA Hb1
  go_wp2_with fail
  refine HL.out.mono ?_
  rintro e w3 ⟨rfl, hb3⟩
  have HE3 := hide (HE.out w3 hb3)
  have Hb3 := hide (bt Hb2.out hb3)
  clear hb3 HL HE Hb2
  go_wp2_with fail
  refine HE3.out.mono ?_
  rintro e w4 ⟨lv, rfl, q1, q2, -⟩
  obtain ⟨la, lc, hlv⟩ := slice_E q1
  rw [Hz.out] at hlv
  subst hlv
  have Hb4 := hide (bt Hb3.out q2)
  clear q1 q2 HE3 Hb3
  go_wp2_with fail
  go_ret
  exact ⟨rfl, Hb4.out⟩
end Go.Proofs.YthiafmlgialbnaaGreatDoor
