/-
  Costs: how far all cells of a rectangle are. The document's Dir and Cost, its Steps, Legal and Cost of a path. The document's Costs over a rectangle: what its rounds keep, and what holds where nothing turns any more. The document's Costs: how far all cells of a rectangle of a world are from one. The document's ground of a world, and its Costs of that ground. Lists of cells: read wherever they begin, held against one another by the document.
-/
import Derived.Test.YtggaobcdogbjhaaGreatDoorWayAll
import Derived.Deep.LoopGhost
import Derived.Test.YtggaobcdogbjhaaGreatDoorGrAll
import Derived.Test.YtggaobcdogbjhaaGreatDoorWkAll
namespace Go.Proofs.YtggaobcdogbjhaaGreatDoor
open Go.RowKit Go.Shelf
set_option linter.unusedVariables false
set_option linter.unusedSimpArgs false
attribute [local go_sem] Oper.semAt_some
section
variable {W H : Int} {tl : List Nat} {f : Int → Int → Option Int} {c s ix iy iw ih : Int}
/-- The list tells of each cell of the rectangle how far it is from s0, or -1. -/
def Tbl (W H : Int) (tl : List Nat) (f : Int → Int → Option Int) (c s ix iy iw ih : Int) (s0 : Int × Int) (C : List Int) : Prop :=
  C.length = (ih * iw).toNat ∧ ∀ q : Int × Int, inB ix iy iw ih q → (∃ n : Nat, C[ij ix iy iw q.1 q.2]? = some (n : Int) ∧ n ≤ 229376 ∧ Std W H tl f c s ix iy iw ih s0 ∧ Least (stepR W H tl f c s ix iy iw ih) s0 q n) ∨
    (C[ij ix iy iw q.1 q.2]? = some (-1) ∧ ∀ n, ¬ (Std W H tl f c s ix iy iw ih s0 ∧ Wk (stepR W H tl f c s ix iy iw ih) s0 q n))
/-- Each place of the list is a cell's. -/
theorem ij_on {ix iy iw ih : Int} {j : Nat} (hw : 0 < iw) (hj : j < (ih * iw).toNat) : ∃ q, inB ix iy iw ih q ∧ ij ix iy iw q.1 q.2 = j := by
  obtain ⟨m, hm⟩ : ∃ m : Nat, iw = m := ⟨iw.toNat, by omega⟩
  subst hm
  have hm0 : 0 < m := by omega
  have hdm := Nat.div_add_mod j m
  have hmod := Nat.mod_lt j hm0
  generalize j / m = Q at hdm
  generalize j % m = R at hdm hmod
  have hc : ((m * Q : Nat) : Int) = (Q : Int) * (m : Int) := by push_cast; exact Int.mul_comm _ _
  have hQ : (Q : Int) < ih := by
    rcases Int.lt_or_le (Q : Int) ih with q | q
    · exact q
    · have := Int.mul_le_mul_of_nonneg_right q (show (0 : Int) ≤ (m : Int) by omega)
      omega
  refine ⟨(ix + (R : Nat), iy + (Q : Nat)), ⟨⟨by simp only; omega, by simp only; omega⟩, by simp only; omega, by simp only; omega⟩, ?_⟩
  unfold ij
  simp only
  rw [show iy + (Q : Int) - iy = Q by omega, show ix + (R : Int) - ix = R by omega]
  omega
theorem Tbl.eq {s0 : Int × Int} {C D : List Int} (hw : 0 < iw) (h : Tbl W H tl f c s ix iy iw ih s0 C) (k : Tbl W H tl f c s ix iy iw ih s0 D) : C = D := by
  refine List.ext_getElem? (fun j => ?_)
  by_cases hj : j < (ih * iw).toNat
  · obtain ⟨q, hq, rfl⟩ := ij_on (ix := ix) (iy := iy) hw hj
    rcases h.2 q hq with ⟨n, h1, -, h2, h3⟩ | ⟨h1, h2⟩
    · rcases k.2 q hq with ⟨m, k1, -, k2, k3⟩ | ⟨k1, k2⟩
      · rw [h1, k1, h3.eq k3]
      · exact absurd ⟨h2, h3.1⟩ (k2 n)
    · rcases k.2 q hq with ⟨m, k1, -, k2, k3⟩ | ⟨k1, k2⟩
      · exact absurd ⟨k2, k3.1⟩ (h2 m)
      · rw [h1, k1]
  · rw [List.getElem?_eq_none (by rw [h.1]; omega), List.getElem?_eq_none (by rw [k.1]; omega)]
/-- Nobody waits any more: the table is right. -/
theorem Tbl.of {s0 : Int × Int} {C : List Int} (hl : C.length = (ih * iw).toNat) (hb : ∀ m ∈ C, -1 ≤ m ∧ m ≤ 229376) (h0 : Std W H tl f c s ix iy iw ih s0) (hsk : Sk (stepR W H tl f c s ix iy iw ih) s0 (tab ix iy iw ih C) []) : Tbl W H tl f c s ix iy iw ih s0 C := by
  refine ⟨hl, fun q hq => ?_⟩
  have hj := ij_lt hq
  rw [← hl] at hj
  have hg : C[ij ix iy iw q.1 q.2]? = some (C[ij ix iy iw q.1 q.2]'hj) := List.getElem?_eq_getElem hj
  have hm := hb _ (List.getElem_mem hj)
  generalize (C[ij ix iy iw q.1 q.2]'hj) = m at hg hm
  have ht := tab_of hq hg
  by_cases h1 : m = -1
  · rw [if_pos h1] at ht
    subst h1
    exact .inr ⟨hg, fun n k => hsk.no ht n k.2⟩
  · rw [if_neg h1] at ht
    refine .inl ⟨m.toNat, by rw [hg]; congr 1; omega, by omega, h0, ?_⟩
    obtain ⟨k, hk, hL⟩ := Least.exists _ (hsk.real _ _ ht)
    have := hsk.done hL
    rw [ht] at this
    injection this with e
    rw [e]
    exact hL
theorem Tbl.none {s0 : Int × Int} {N : Nat} (hN : N = (ih * iw).toNat) (h0 : ¬ Std W H tl f c s ix iy iw ih s0) : Tbl W H tl f c s ix iy iw ih s0 (List.replicate N (-1)) := by
  refine ⟨by simp [hN], fun q hq => .inr ⟨?_, fun n k => h0 k.1⟩⟩
  rw [List.getElem?_replicate, if_pos (by rw [hN]; exact ij_lt hq)]
end
theorem cost0_is (w0 : World) : Lfo w0 (.func (.func 47) #[] #[]) (fun _ _ => 0) := fun x y => by
  refine ⟨47, #[cel x y], ?_, fun w hb => ?_⟩
  · intro ev o w c ar ts hop hf hvs
    unfold execOp
    simp only [hop, resolve, hf, hvs]
    go_simp
  · go_enter Tryz.func47, Tryz.ntmps47
    go_wp2_with fail
    go_ret
    exact ⟨rfl, box1 _ _⟩
theorem cts_rep {w : World} {g N : Nat} (hN : N ≤ 16384) (h : w.heap[g]? = some (.cells (repL (-1) N N).toArray 3)) : Cts w (.slice (some ⟨g, 0, none⟩) N N) (List.replicate N (-1)) := by
  refine ⟨by simp, .inr ⟨g, N, _, by simp, Nat.zero_le _, h, by simp, by unfold maxLen; omega, by simp [repL_all], ?_⟩⟩
  simp [repL_all]
theorem wi_rect {ix iy iw ih W H : Int} (hW : W ≤ 128) (hH : H ≤ 128) (h : wi ix iy iw ih 0 0 W H = true) : 0 ≤ ix ∧ 0 ≤ iy ∧ ix + iw ≤ W ∧ iy + ih ≤ H ∧ 0 < iw ∧ 0 < ih := by
  unfold wi at h
  rw [Bool.and_eq_true, Bool.and_eq_true] at h
  have h1 := (has_iff _ _ _ _ _ _).1 h.2.1
  have h2 := (has_iff _ _ _ _ _ _).1 h.2.2
  have h3 := (may_iff _ _ _ _).1 h.1
  omega
/-- What Costs tells. -/
def CostsEnd (W H : Int) (tl : List Nat) (f : Int → Int → Option Int) (c s ix iy iw ih fx fy : Int) (w : World) (e : Ending) (w' : World) : Prop :=
  ∃ va vn vc C, e = .returned (.tuple #[.slice va vn vc, .int .i64 0]) ∧ Below w.heap.size w w' ∧ (Cts w' (.slice va vn vc) C ∧ ∀ j, (Value.slice va vn vc).ownBlock = some j → w.heap.size ≤ j) ∧ Tbl W H tl f c s ix iy iw ih (fx, fy) C
/-- What the loop keeps. -/
def Cl (w0 : World) (k p : Nat) (c s ix iy iw ih : Int) (gv cv : Value) (b : Nat) (W H : Int) (tl : List Nat) (f : Int → Int → Option Int) (fx fy : Int) (gk : Nat) (s11 s12 : Value) (wr : World) : Prop :=
  ∃ (i kb : Nat) (C : List Int) (n : Int) (S R : List It) (hv : Value) (G : List Nat) (tx ty tc tf : Int) (ok : Bool), (s11 = ptr kb ∧ s12 = .bool ok ∧ i + gk = (ih * iw).toNat + 1) ∧ Okk W H tl f c s ix iy iw ih (fun _ _ => 0) fx fy i C n S ∧ Nx ix iy iw C S tx ty tc tf ok R ∧
    (Sch w0 wr k p c s ix iy iw ih gv cv b (.func (.func 47) #[] #[]) G C hv n R ∧ Gok W H tl f c s ix iy iw ih G) ∧ Four wr kb tx ty tc tf ∧ (∀ j, Own gv cv b hv j → j ≠ kb) ∧ w0.heap.size ≤ kb ∧ k ≠ kb
set_option maxRecDepth 100000 in
set_option maxHeartbeats 4000000 in
theorem pcosts_no (p : Nat) (W H : Int) (tl : List Nat) (f : Int → Int → Option Int) (c s fx fy ix iy iw ih : Int) (w : World) (hw : Wl w p W H tl f) (hno : (wi ix iy iw ih 0 0 W H && has ix iy iw ih fx fy) = false) :
    Calls Tryz.prog 15 #[ptr p, shv c s, cel fx fy, rct ix iy iw ih] w fun e w' => e = .returned (.tuple #[.slice none 0 0, .int .i64 1]) ∧ Below w.heap.size w w' := by
  obtain ⟨X, hX⟩ : ∃ X, ((w.alloc (.cells #[.int .i64 c, .int .i64 s] 27)).alloc (.cells #[.int .i64 fx, .int .i64 fy] 29)).alloc (.cells #[.int .i64 ix, .int .i64 iy, .int .i64 iw, .int .i64 ih] 31) = X := ⟨_, rfl⟩
  have B0 : Below w.heap.size w X := hX ▸ bt (box2 _ _ _) (box1 _ _)
  have F1 : Two X (w.heap.size + 1) fx fy := by rw [← hX]; exact (Two.newAt (by simp)).alloc
  have F2 : Four X (w.heap.size + 2) ix iy iw ih := by rw [← hX]; exact Four.newAt _ _ _ _ _ (by simp)
  have HX := hide hX
  obtain ⟨d0, d1⟩ := F1.lat
  obtain ⟨g0, g1, g2, g3⟩ := F2.lat
  have hne := lat_some X
  have HAl : Hid (∀ n : Lat X, Calls Tryz.prog 29 #[ptr p] n.w fun e w' => e = .returned (rct 0 0 W H) ∧ Below n.w.heap.size n.w w') := hide fun n => all_is (hw.kept (bt B0 n.h))
  have HB := hide B0
  clear hX B0 F1 F2 hw
  cases hwi : wi ix iy iw ih 0 0 W H
  · have HWi := hide hwi
    clear hwi hno
    go_enter Tryz.func15, Tryz.ntmps15
    go_wp2_with (rw [HX.out])
    refine wp_region_lat (by kernel_rfl) (by kernel_rfl) ?_
    repeat (go_big_quiet_step (first | (go_at_call 29; exact calls_lat (HAl.out _)) | (go_at_call 43; exact calls_lat (within_is _ HWi.out))))
    refine wpQuiet_nil ?_
    rintro _ ⟨m, rfl⟩
    have HBm := hide (bt HB.out m.h)
    clear d0 d1 g0 g1 g2 g3
    go_wp2_with fail
    refine bodyPost_ret (v := .tuple #[.slice none 0 0, .int .i64 1]) (by simp [results, Tryz.f15, go_sem]) rfl ?_
    exact ⟨rfl, HBm.out⟩
  · rw [hwi, Bool.true_and] at hno
    have HWi := hide hwi
    have HHa : Hid (∀ n : Lat X, Calls Tryz.prog 44 #[rct ix iy iw ih, cel fx fy] n.w fun e w' => e = .returned (.bool false) ∧ Below n.w.heap.size n.w w') := hide fun n => by have := hasc_any ix iy iw ih fx fy n.w; rwa [hno] at this
    clear hwi hno
    go_enter Tryz.func15, Tryz.ntmps15
    go_wp2_with (rw [HX.out])
    refine wp_region_lat (by kernel_rfl) (by kernel_rfl) ?_
    repeat (go_big_quiet_step (first | (go_at_call 29; exact calls_lat (HAl.out _)) | (go_at_call 43; exact calls_lat (within_is _ HWi.out)) | (go_at_call 44; exact calls_lat (HHa.out _))))
    refine wpQuiet_nil ?_
    rintro _ ⟨m, rfl⟩
    have HBm := hide (bt HB.out m.h)
    clear d0 d1 g0 g1 g2 g3
    go_wp2_with fail
    refine bodyPost_ret (v := .tuple #[.slice none 0 0, .int .i64 1]) (by simp [results, Tryz.f15, go_sem]) rfl ?_
    exact ⟨rfl, HBm.out⟩
set_option maxRecDepth 100000 in
set_option maxHeartbeats 4000000 in
theorem pcosts_yes (p : Nat) (W H : Int) (tl : List Nat) (f : Int → Int → Option Int) (c s fx fy ix iy iw ih : Int) (w : World) (hw : Wl w p W H tl f) (hg : Grnd w) (ho : Offs w) (hW : W ≤ 128) (hH : H ≤ 128) (hwi : wi ix iy iw ih 0 0 W H = true) (hh : has ix iy iw ih fx fy = true) :
    Calls Tryz.prog 15 #[ptr p, shv c s, cel fx fy, rct ix iy iw ih] w (CostsEnd W H tl f c s ix iy iw ih fx fy w) := by
  obtain ⟨X, hX⟩ : ∃ X, ((w.alloc (.cells #[.int .i64 c, .int .i64 s] 27)).alloc (.cells #[.int .i64 fx, .int .i64 fy] 29)).alloc (.cells #[.int .i64 ix, .int .i64 iy, .int .i64 iw, .int .i64 ih] 31) = X := ⟨_, rfl⟩
  have B0 : Below w.heap.size w X := hX ▸ bt (box2 _ _ _) (box1 _ _)
  have F0 : Two X w.heap.size c s := by rw [← hX]; exact ((Two.newAt rfl).alloc).alloc
  have F1 : Two X (w.heap.size + 1) fx fy := by rw [← hX]; exact (Two.newAt (by simp)).alloc
  have F2 : Four X (w.heap.size + 2) ix iy iw ih := by rw [← hX]; exact Four.newAt _ _ _ _ _ (by simp)
  obtain ⟨hr1, hr2, hr3, hr4, hr5, hr6⟩ := wi_rect hW hH hwi
  have har := area_le (ix := ix) (iy := iy) (iw := iw) (ih := ih) ⟨hr1, hr2, hr3, hr4⟩ hr5 hr6 hW hH
  have hf := (has_iff _ _ _ _ _ _).1 hh
  have hfx : 0 ≤ fx - ix ∧ fx - ix < iw := by omega
  have hfy : 0 ≤ fy - iy ∧ fy - iy < ih := by omega
  have hi : 0 ≤ ix ∧ 0 ≤ iy ∧ ix + iw ≤ 1048576 ∧ iy + ih ≤ 1048576 := by omega
  have hcm : ih * iw = iw * ih := Int.mul_comm _ _
  obtain ⟨N, hN⟩ : ∃ N : Nat, iw * ih = (N : Nat) := ⟨(iw * ih).toNat, by omega⟩
  have hN' : N = (ih * iw).toNat := by omega
  have HX := hide hX
  obtain ⟨d0, d1⟩ := F1.lat
  obtain ⟨g0, g1, g2, g3⟩ := F2.lat
  have hne := lat_some X
  have HAl : Hid (∀ n : Lat X, Calls Tryz.prog 29 #[ptr p] n.w fun e w' => e = .returned (rct 0 0 W H) ∧ Below n.w.heap.size n.w w') := hide fun n => all_is (hw.kept (bt B0 n.h))
  have HHa : Hid (∀ n : Lat X, Calls Tryz.prog 44 #[rct ix iy iw ih, cel fx fy] n.w fun e w' => e = .returned (.bool true) ∧ Below n.w.heap.size n.w w') := hide fun n => by have := hasc_any ix iy iw ih fx fy n.w; rwa [hh] at this
  have HWi := hide hwi
  have HB : Hid (∀ wx, Below X.heap.size X wx → (Two wx w.heap.size c s ∧ Two wx (w.heap.size + 1) fx fy ∧ Four wx (w.heap.size + 2) ix iy iw ih) ∧ (Below w.heap.size w wx ∧ Wl wx p W H tl f ∧ Grnd wx ∧ Offs wx)) := hide fun wx q =>
    ⟨⟨F0.kept q, F1.kept q, F2.kept q⟩, bt B0 q, hw.kept (bt B0 q), hg.kept (bt B0 q), ho.kept (bt B0 q)⟩
  have HSt : Hid (∀ wx, Below X.heap.size X wx → Calls Tryz.prog 45 #[ptr p, shv c s, cel fx fy] wx fun e w' => e = .returned (.bool (stB W H tl f c s fx fy)) ∧ Below wx.heap.size wx w') := hide fun wx q => stands_any p W H tl f c s fx fy wx (hw.kept (bt B0 q)) (hg.kept (bt B0 q))
  have Hnum := hide (And.intro hfx (And.intro hfy (And.intro hi (And.intro hN (And.intro hN' har)))))
  have hwN : IntKind.i64.wrap (iw * ih) = (N : Nat) := by rw [hN]; exact IntWalk.i64_in _ (by omega)
  have Hhh := hide hh
  have Hpo : Hid (0 < iw ∧ 0 < ih) := hide ⟨hr5, hr6⟩
  clear hX B0 F0 F1 F2 hw hg ho hwi hh hr1 hr2 hr3 hr4 hr5 hr6 har hf hfx hfy hi hcm hN hN' hW hH
  go_enter Tryz.func15, Tryz.ntmps15
  go_wp2_with (rw [HX.out])
  refine wp_region_lat (by kernel_rfl) (by kernel_rfl) ?_
  repeat (go_big_quiet_step (first | (go_at_call 29; exact calls_lat (HAl.out _)) | (go_at_call 43; exact calls_lat (within_is _ HWi.out)) | (go_at_call 44; exact calls_lat (HHa.out _))))
  refine wpQuiet_nil ?_
  rintro _ ⟨m, rfl⟩
  have Hm := hide m.h
  obtain ⟨⟨b0, b1, -⟩, -⟩ := HB.out m.w m.h
  obtain ⟨w1, hw1⟩ : ∃ w1, m.w = w1 := ⟨_, rfl⟩
  rw [hw1] at Hm b0 b1
  rw [hw1]
  obtain ⟨⟨c0, c1⟩, -, -⟩ := b0
  obtain ⟨⟨e0, e1⟩, -, -⟩ := b1
  have HS1 := hide (HSt.out w1 Hm.out)
  clear d0 d1 g0 g1 g2 g3 hw1 hne HAl HHa HWi HSt
  go_wp2_with fail
  refine HS1.out.mono ?_
  rintro e w2 ⟨rfl, hb2⟩
  have HB2 := hide (bt Hm.out hb2)
  obtain ⟨⟨b0, b1, b2⟩, hB2, hWl, hGr, hOf⟩ := HB.out w2 HB2.out
  have Hw2 := hide (And.intro hB2 (And.intro hWl (And.intro hGr hOf)))
  clear c0 c1 e0 e1 hb2 HS1 hB2 hWl hGr hOf
  cases hst : stB W H tl f c s fx fy
  · have Hns : Hid (¬ Std W H tl f c s ix iy iw ih (fx, fy)) := hide fun q => by have := q.2; simp only at this; rw [hst] at this; cases this
    obtain ⟨Y3, hY3⟩ : ∃ Y, w2.alloc (.cells #[.int .i64 (-1)] 3) = Y := ⟨_, rfl⟩
    have B3 : Below w2.heap.size w2 Y3 := hY3 ▸ box1 _ _
    have c3 : Y3.heap[w2.heap.size]? = some (.cells #[.int .i64 (-1)] 3) := hY3 ▸ heap_alloc_new w2 _
    have HR := hide (repeat_is w2.heap.size (-1) N (by have := Hnum.out; omega) Y3 (by rw [cell_of_row _ _ 0 _ _ _ c3]; rfl) (Array.getElem?_eq_some_iff.1 c3).1)
    have HB3 := hide B3
    obtain ⟨⟨g0, g1, g2, g3⟩, -, -⟩ := b2.kept B3
    have HY3 := hide hY3
    clear b0 b1 b2 B3 hst c3 hY3
    go_wp2_with (first | rw [HY3.out] | fail)
    refine HR.out.mono ?_
    rintro e w3 ⟨rfl, hr3, hb3⟩
    have HE : Hid (CostsEnd W H tl f c s ix iy iw ih fx fy w (.returned (.tuple #[.slice (some ⟨Y3.heap.size, 0, none⟩) N N, .int .i64 0])) w3) := hide (by
      obtain ⟨-, -, -, h4, h5, h6⟩ := Hnum.out
      refine ⟨_, _, _, List.replicate N (-1), rfl, bt Hw2.out.1 (bt HB3.out hb3), ⟨cts_rep (by omega) hr3, fun j e => ?_⟩, Tbl.none h5 Hns.out⟩
      simp only [Value.ownBlock, Option.some.injEq] at e
      have := Hw2.out.1.size
      have := HB3.out.size
      omega)
    clear hr3 hb3 g0 g1 g2 g3 HR
    go_wp2_with fail
    refine bodyPost_ret (v := .tuple #[.slice (some ⟨Y3.heap.size, 0, none⟩) N N, .int .i64 0]) (by simp [results, Tryz.f15, go_sem]) rfl ?_
    exact HE.out
  · have Hst : Hid (Std W H tl f c s ix iy iw ih (fx, fy)) := hide ⟨Hhh.out, hst⟩
    obtain ⟨⟨c0, c1⟩, -, -⟩ := b0
    obtain ⟨⟨e0, e1⟩, -, -⟩ := b1
    obtain ⟨⟨g0, g1, g2, g3⟩, -, -⟩ := b2
    have HBg := hide (begin_is w2 p c s ix iy iw ih (.func 47) #[] #[] N (fun _ _ => 0) fx fy w2 (Below.refl _ _) (cost0_is w2) Hnum.out.2.2.2.1 (by have := Hnum.out; omega) Hnum.out.1 Hnum.out.2.1 Hnum.out.2.2.1 (by omega))
    clear hst
    go_wp2_with fail
    refine HBg.out.mono ?_
    rintro e w3 ⟨k, gv, cv, b, hv, rfl, hS3, hb3⟩
    obtain ⟨hfx, hfy, hi, hN, hN', har⟩ := Hnum.out
    have hO : Okk W H tl f c s ix iy iw ih (fun _ _ => 0) fx fy 0 ((List.replicate N (-1)).set (ij ix iy iw fx fy) 0) 1 [⟨fx, fy, 0, 0, 0⟩] := Okk.begin hN' ⟨hfx, hfy⟩
    have hG := gok_new (W := W) (H := H) (tl := tl) (f := f) (c := c) (s := s) (ix := ix) (iy := iy) (iw := iw) (ih := ih) hN'
    have hNe := nearest_g w2 k p c s ix iy iw ih gv cv b _ _ _ hv 1 _ w3 hS3 hO.len hO.inr hi (by omega) (by simp)
    have HNe := hide hNe
    have HO := hide (And.intro hO hG)
    have Hk3 := hide hS3.sr.lt
    clear hfx hfy hi hN hN' har hO hG hNe hb3 hS3 c0 c1 e0 e1 g0 g1 g2 g3 HBg
    go_wp2_with fail
    refine HNe.out.mono ?_
    rintro e w4 ⟨tx, ty, tc, tf, ok, R, hv4, rfl, hnx, hS4, how4, hT4⟩
    obtain ⟨Y, hY, hFY, BY⟩ := four_put w4 tx ty tc tf
    have HY := hide hY
    have Hcl : Hid (Cl w2 k p c s ix iy iw ih gv cv b W H tl f fx fy ((ih * iw).toNat + 1) (ptr w4.heap.size) (.bool ok) Y) := hide ⟨0, w4.heap.size, _, _, _, R, hv4, _, tx, ty, tc, tf, ok, ⟨rfl, rfl, by omega⟩, HO.out.1, hnx, ⟨hS4.upto BY, HO.out.2⟩, hFY, fun j e q => by have := hS4.own_lt e; omega, hS4.bel.size, by have := Hk3.out; have := hT4.size; omega⟩
    clear hY hFY BY hnx hS4 how4 hT4 HNe HO
    go_wp2_with (rw [HY.out])
    go_loopg [11, 12] ((ih * iw).toNat + 1) (fun gk s11 s12 wr => Cl w2 k p c s ix iy iw ih gv cv b W H tl f fx fy gk s11 s12 wr)
    case atStart => exact Hcl.out
    case round =>
      clear Hcl HY
      obtain ⟨i, kb, C, n, S, R, hv, G, tx, ty, tc, tf, ok, ⟨rfl, rfl, hgk⟩, hO, hnx, ⟨hS, hG⟩, hF, hown, hkb, hkk⟩ := hrel
      have hsm := hO.small
      obtain ⟨hfx, hfy, hi, hN, hN', har⟩ := Hnum.out
      have hcm : ih * iw = iw * ih := Int.mul_comm _ _
      cases ok
      · obtain ⟨xs, h1, ⟨-, rfl, h2⟩ | ⟨q, -⟩⟩ := hnx
        · have hD := hO.drops h1 h2
          have hsk : Sk (stepR W H tl f c s ix iy iw ih) (fx, fy) (tab ix iy iw ih C) [] := hD.sk
          have hT : Tbl W H tl f c s ix iy iw ih (fx, fy) C := Tbl.of hD.len (fun m hm => by have := hD.tb m hm; omega) Hst.out hsk
          obtain ⟨g, cap, hcv, hgl⟩ := hS.ct.form (by rw [hD.len]; omega)
          subst hcv
          have HE : Hid (CostsEnd W H tl f c s ix iy iw ih fx fy w (.returned (.tuple #[.slice (some ⟨g, 0, none⟩) C.length cap, .int .i64 0])) wr) := hide ⟨_, _, _, C, rfl, Hw2.out.1.trans (hS.bel.mono Hw2.out.1.size), ⟨hS.ct, fun j e => by have := hS.cn j e; have := Hw2.out.1.size; omega⟩, hT⟩
          have c8 : wr.cell? ⟨k, 8, none⟩ = some (.slice (some ⟨g, 0, none⟩) C.length cap) := hS.sr.cl 8
          clear hO hS hG hF hown hkb hkk hD hsk hT h1 h2 hsm hfx hfy hi hN hN' har hcm hgk hgl
          go_wp2_with fail
          refine bodyPost_ret (v := .tuple #[.slice (some ⟨g, 0, none⟩) C.length cap, .int .i64 0]) (by simp [results, Tryz.f15, go_sem]) rfl ?_
          exact HE.out
        · cases q
      · obtain ⟨t, ht, rfl, rfl, rfl, rfl⟩ := hnx.mem
        have hcs := hO.cst t ht
        have hcn := hO.cnt
        have hfw := hO.few
        have hRl := hnx.len
        have HSp := hide (spread_is w2 k p c s ix iy iw ih gv cv b _ G C hv n R W H tl f (fun _ _ => 0) t.x t.y t.c t.f wr hS Hw2.out.2.1 Hw2.out.2.2.1 Hw2.out.2.2.2 hG (cost0_is w2) hO.len (hO.inr t ht).1 (hO.inr t ht).2 hi (by omega) (by intro u v; omega) (by omega) (by omega))
        have HN := hide (fun a ha => Okk.next (a := a) (L := fun _ _ => 0) (fun a b k hk => by omega) (fun u v => by omega) hO hnx ha)
        obtain ⟨⟨f0, f1, f2, f3⟩, -, -⟩ := id hF
        have Hst2 := hide (And.intro hF (And.intro hown (And.intro hkb (And.intro hkk hgk))))
        have Hbig := hide (And.intro hi (And.intro hN (And.intro hN' har)))
        have hkl := hS.sr.lt
        have Hkl := hide hkl
        clear hO hnx hS hG hF hown hkb hkk hsm hfx hfy hi hN hN' har hcm hgk hcs hcn hfw hRl ht hkl
        obtain ⟨tx, htx⟩ : ∃ tx, t.x = tx := ⟨_, rfl⟩
        obtain ⟨ty, hty⟩ : ∃ ty, t.y = ty := ⟨_, rfl⟩
        obtain ⟨tc, htc⟩ : ∃ tc, t.c = tc := ⟨_, rfl⟩
        obtain ⟨tf, htf⟩ : ∃ tf, t.f = tf := ⟨_, rfl⟩
        rw [htx, hty, htc, htf] at HSp Hst2
        rw [htx, hty, htc] at HN
        rw [htx] at f0; rw [hty] at f1; rw [htc] at f2; rw [htf] at f3
        clear htx hty htc htf t
        go_wp2_with fail
        refine HSp.out.mono ?_
        rintro e w5 ⟨rfl, G5, C5, hv5, n5, S5, s1, s2, s3, s4, s5⟩
        obtain ⟨hF, hown, hkb, hkk, hgk⟩ := Hst2.out
        have hF5 := hF.turned s4 (fun e => hown _ e rfl)
        have hO5 := HN.out _ s3
        obtain ⟨hi, hN, hN', har⟩ := Hbig.out
        have hcm : ih * iw = iw * ih := Int.mul_comm _ _
        have hsm5 := hO5.small
        have hpos : 0 < iw ∧ 0 < ih := Hpo.out
        obtain ⟨Y, hY, hFY, BY⟩ := four_put w5 tx ty tc tf
        have hSY := s1.upto BY
        have hf5 := hO5.few
        have HNe := hide (nearest_g w2 k p c s ix iy iw ih gv cv b _ G5 C5 hv5 n5 S5 Y hSY hO5.len hO5.inr hi hpos (by simp only at hf5 ⊢; omega))
        have HY := hide hY
        obtain ⟨⟨f0, f1, f2, f3⟩, -, -⟩ := id hF5
        have H5 := hide (And.intro hO5 (And.intro s2 (And.intro hFY (And.intro (fun j (e : Own gv cv b hv5 j) => s1.own_lt e) (And.intro s1.bel.size hsm5)))))
        have Hgk := hide (And.intro hgk (And.intro BY.size (s4.size)))
        clear s1 s2 s3 s4 s5 hF hown hkb hkk hgk hF5 hO5 hi hN hN' har hcm hsm5 hY hFY BY hSY hf5 HSp HN
        go_wp2_with (first | rw [HY.out] | fail)
        refine HNe.out.mono ?_
        rintro e w6 ⟨tx', ty', tc', tf', ok', R', hv6, rfl, hnx6, hS6, how6, hT6⟩
        obtain ⟨hO5, hG5, hFY, hol, hbz, hsm5⟩ := H5.out
        obtain ⟨hgk, hz1, hz2⟩ := Hgk.out
        have hno5 : ∀ j, Own gv cv b hv5 j → j ≠ w5.heap.size := fun j e q => by have := hol j e; omega
        have hF6 := hFY.turned hT6 (fun e => hno5 _ e rfl)
        obtain ⟨Z, hZ⟩ : ∃ Z, (((w6.setCell ⟨w5.heap.size, 0, none⟩ (.int .i64 tx')).setCell ⟨w5.heap.size, 1, none⟩ (.int .i64 ty')).setCell ⟨w5.heap.size, 2, none⟩ (.int .i64 tc')).setCell ⟨w5.heap.size, 3, none⟩ (.int .i64 tf') = Z := ⟨_, rfl⟩
        have hFZ : Four Z w5.heap.size tx' ty' tc' tf' := hZ ▸ hF6.set tx' ty' tc' tf'
        have TZ : Turns (fun j => j = w5.heap.size) w6 Z := hZ ▸ turns_four w6 w5.heap.size _ _ _ _
        have hno6 : ∀ j, Own gv cv b hv6 j → j ≠ w5.heap.size := fun j e => hno5 j (e.imp id (fun e => e.imp id (fun e => e.imp id (how6 j))))
        have hkl := Hkl.out
        have hSZ := hS6.leave TZ (fun j e => by omega) (fun e => by omega) (fun j e q => hno6 j e q)
        have HE : Hid (∀ gk', gk' + 1 = gk → Cl w2 k p c s ix iy iw ih gv cv b W H tl f fx fy gk' (ptr w5.heap.size) (.bool ok') Z) := hide fun gk' hg' => ⟨i + 1, w5.heap.size, _, _, _, R', hv6, G5, tx', ty', tc', tf', ok', ⟨rfl, rfl, by omega⟩, hO5, hnx6, ⟨hSZ, hG5⟩, hFZ, hno6, hbz, by omega⟩
        have Hpos : Hid (0 < gk) := hide (by omega)
        obtain ⟨⟨y0, y1, y2, y3⟩, ⟨y4, y5, y6, y7⟩, -⟩ := id hF6
        have HZ := hide hZ
        clear hO5 hG5 hFY hol hbz hsm5 hgk hz1 hz2 hno5 hF6 hFZ TZ hno6 hkl hSZ hZ hnx6 hS6 how6 hT6 f0 f1 f2 f3
        go_wp2_with (first | rw [HZ.out] | fail)
        go_roundg (gk - 1)
        case measure => have := Hpos.out; omega
        case rel => exact HE.out (gk - 1) (by have := Hpos.out; omega)
end Go.Proofs.YtggaobcdogbjhaaGreatDoor
namespace Go.Proofs.YtggaobcdogbjhaaGreatDoor
open Go.RowKit Go.Shelf
set_option linter.unusedVariables false
set_option linter.unusedSimpArgs false
set_option maxHeartbeats 1000000 in
theorem refcost_any (d : Int) (w : World) : Calls Tryz.prog 23 #[.int .i64 d] w fun e w' => e = .returned (.int .i64 (co d)) ∧ w' = w := by
  cases h : isD d
  · rw [show co d = 0 by simp [co, h]]
    have h' := (isD_not d).1 h
    by_cases h0 : d < 0
    all_goals
      go_enter Tryz.func23, Tryz.ntmps23
      go_wp2
      go_ret
      exact ⟨rfl, rfl⟩
  · obtain ⟨h0, h1⟩ := (isD_iff d).1 h
    by_cases h4 : 4 ≤ d
    · rw [show co d = 14 by simp [co, h, oc, h4]]
      go_enter Tryz.func23, Tryz.ntmps23
      go_wp2
      go_ret
      exact ⟨rfl, rfl⟩
    · rw [show co d = 10 by simp [co, h, oc, h4]]
      go_enter Tryz.func23, Tryz.ntmps23
      go_wp2
      go_ret
      exact ⟨rfl, rfl⟩
def hitD (x y tx ty : Int) (k : Nat) : Bool := sB x y k && (decide (sX x y k = tx) && decide (sY x y k = ty))
def dirF (f : Nat → Bool) : Nat → Nat → Int
  | _, 0 => -1
  | k, n + 1 => if f k = true then (k : Int) else dirF f (k + 1) n
theorem dirF_hit {f : Nat → Bool} {k : Nat} (hk : k < 8) (h : f k = true) : dirF f k (8 - k) = k := by
  obtain ⟨n, hn⟩ : ∃ n, 8 - k = n + 1 := ⟨7 - k, by omega⟩
  rw [hn]; simp [dirF, h]
theorem dirF_miss {f : Nat → Bool} {k : Nat} (hk : k < 8) (h : f k = false) : dirF f k (8 - k) = dirF f (k + 1) (8 - (k + 1)) := by
  obtain ⟨n, hn⟩ : ∃ n, 8 - k = n + 1 := ⟨7 - k, by omega⟩
  have hn' : 8 - (k + 1) = n := by omega
  rw [hn, hn']; simp [dirF, h]
theorem dirF_end {f : Nat → Bool} : dirF f 8 (8 - 8) = -1 := rfl
def dirN (x y tx ty : Int) : Int := dirF (hitD x y tx ty) 0 (8 - 0)
abbrev W2 (w : World) (x y tx ty : Int) : World := (w.alloc (.cells #[.int .i64 x, .int .i64 y] 29)).alloc (.cells #[.int .i64 tx, .int .i64 ty] 29)
theorem int8 {k : Nat} (h : ¬ k < 8) (h' : k ≤ 8) : k = 8 := by omega
set_option maxHeartbeats 1000000 in
theorem refdir_any (x y tx ty : Int) (w : World) :
    Calls Tryz.prog 24 #[.agg #[.int .i64 x, .int .i64 y], .agg #[.int .i64 tx, .int .i64 ty]] w fun e w' => e = .returned (.int .i64 (dirN x y tx ty)) ∧ Below w.heap.size w w' := by
  go_enter Tryz.func24, Tryz.ntmps24
  go_wp2_with fail
  go_loopw [5] (fun i wr => ∃ k : Nat, k ≤ 8 ∧ i = .int .i64 k ∧ Hid (dirN x y tx ty = dirF (hitD x y tx ty) k (8 - k)) ∧ Below (W2 w x y tx ty).heap.size (W2 w x y tx ty) wr) (fun i _ => (8 - intOf i).toNat)
  case atStart => exact ⟨0, by omega, rfl, rfl, Below.refl _ _⟩
  case round =>
    obtain ⟨k, hk, rfl, hd, hb⟩ := hrel
    obtain ⟨⟨c0, c1⟩, _, z0⟩ := cells2' hb
    obtain ⟨⟨e0, e1⟩, ⟨f0, f1⟩, z1⟩ := cells2'' hb
    have HB := hide (bt (box2 w _ _) hb)
    have Hb := hide hb
    clear hb
    by_cases hlt : k < 8
    · cases hs : sB x y k
      · have hh := hide (dirF_miss (f := hitD x y tx ty) hlt (by simp [hitD, hs]))
        go_wp2_with (go_at_call 54; refine (refstep_any _ _ _ _).mono ?_; rintro e w1 ⟨rfl, hb1⟩; obtain ⟨⟨e2, e3⟩, f2, f3⟩ := Below.two hb1 z1 e0 e1 f0 f1; have z2 := Nat.lt_of_lt_of_le z1 hb1.size; have Hb1 := hide hb1; clear hb1)
        go_roundw
        case rel => exact ⟨k + 1, by omega, by go_num, hd.out.trans hh.out, (Hb.out.trans (Hb1.out.mono Hb.out.size)).alloc (by have := Hb.out.size; have := Hb1.out.size; omega) _⟩
        case measure => simp [intOf]; omega
      · by_cases hx : sX x y k = tx
        · by_cases hy : sY x y k = ty
          · have hh := hide (dirF_hit (f := hitD x y tx ty) hlt (by simp [hitD, hs, hx, hy]))
            go_wp2_with (go_at_call 54; refine (refstep_any _ _ _ _).mono ?_; rintro e w1 ⟨rfl, hb1⟩; obtain ⟨⟨e2, e3⟩, f2, f3⟩ := Below.two hb1 z1 e0 e1 f0 f1; have z2 := Nat.lt_of_lt_of_le z1 hb1.size; have Hb1 := hide hb1; clear hb1)
            go_ret
            exact ⟨ret_int (hd.out.trans hh.out).symm, bt (bt HB.out Hb1.out) (box1 _ _)⟩
          · have hh := hide (dirF_miss (f := hitD x y tx ty) hlt (by simp [hitD, hs, hx, hy]))
            go_wp2_with (go_at_call 54; refine (refstep_any _ _ _ _).mono ?_; rintro e w1 ⟨rfl, hb1⟩; obtain ⟨⟨e2, e3⟩, f2, f3⟩ := Below.two hb1 z1 e0 e1 f0 f1; have z2 := Nat.lt_of_lt_of_le z1 hb1.size; have Hb1 := hide hb1; clear hb1)
            go_roundw
            case rel => exact ⟨k + 1, by omega, by go_num, hd.out.trans hh.out, (Hb.out.trans (Hb1.out.mono Hb.out.size)).alloc (by have := Hb.out.size; have := Hb1.out.size; omega) _⟩
            case measure => simp [intOf]; omega
        · have hh := hide (dirF_miss (f := hitD x y tx ty) hlt (by simp [hitD, hs, hx]))
          go_wp2_with (go_at_call 54; refine (refstep_any _ _ _ _).mono ?_; rintro e w1 ⟨rfl, hb1⟩; obtain ⟨⟨e2, e3⟩, f2, f3⟩ := Below.two hb1 z1 e0 e1 f0 f1; have z2 := Nat.lt_of_lt_of_le z1 hb1.size; have Hb1 := hide hb1; clear hb1)
          go_roundw
          case rel => exact ⟨k + 1, by omega, by go_num, hd.out.trans hh.out, (Hb.out.trans (Hb1.out.mono Hb.out.size)).alloc (by have := Hb.out.size; have := Hb1.out.size; omega) _⟩
          case measure => simp [intOf]; omega
    · obtain rfl := int8 hlt hk
      go_wp2_with fail
      go_ret
      exact ⟨ret_int (hd.out.trans dirF_end).symm, HB.out⟩
theorem off_inj : ∀ j k : Fin 8, j ≠ k → ¬ (dX j.val = dX k.val ∧ dY j.val = dY k.val) := by decide
/-- The direction of a step is the one by which it was made. -/
theorem dirN_self {x y : Int} {k : Nat} (hk : k < 8) (h : sB x y k = true) : dirN x y (x + dX k) (y + dY k) = k := by
  have hm : ∀ j : Nat, j < 8 → j ≠ k → hitD x y (x + dX k) (y + dY k) j = false := fun j hj hne => by
    cases hs : sB x y (j : Int)
    · simp [hitD, hs]
    · simp only [hitD, hs, sX_yes hs, sY_yes hs, Int.toNat_natCast, Bool.true_and, Bool.and_eq_false_iff, decide_eq_false_iff_not]
      have := off_inj ⟨j, hj⟩ ⟨k, hk⟩ (fun e => hne (by simpa using e))
      simp only at this
      omega
  have hh : hitD x y (x + dX k) (y + dY k) k = true := by
    simp only [hitD, h, sX_yes h, sY_yes h, Int.toNat_natCast, decide_true, Bool.and_self]
  suffices H : ∀ n a : Nat, a + n = k → dirF (hitD x y (x + dX k) (y + dY k)) a (8 - a) = k by exact H k 0 (by omega)
  intro n
  induction n with
  | zero =>
    intro a ha
    obtain rfl : a = k := by omega
    exact dirF_hit hk hh
  | succ n ih => intro a ha; rw [dirF_miss (by omega) (hm a (by omega) (by omega))]; exact ih (a + 1) (by omega)
set_option maxHeartbeats 4000000 in
theorem refsteps_of (p : Nat) (S : Int → Int → Bool) (c s x y d : Int) (w : World)
    (HT : ∀ wx, Below w.heap.size w wx → Calls Tryz.prog 54 #[cel x y, .int .i64 d] wx fun e w' => e = .returned (.tuple #[cel (sX x y d) (sY x y d), .bool (sB x y d)]) ∧ Below wx.heap.size wx w')
    (HD : ∀ wx, Below w.heap.size w wx → Calls Tryz.prog 74 #[cel x y, .int .i64 d] wx fun e w' => e = .returned (sidesV x y d) ∧ Below wx.heap.size wx w')
    (HS : ∀ wx, Below w.heap.size w wx → ∀ x y, Calls Tryz.prog 37 #[ptr p, shv c s, cel x y] wx fun e w' => e = .returned (.bool (S x y)) ∧ Below wx.heap.size wx w') :
    Calls Tryz.prog 51 #[ptr p, shv c s, cel x y, .int .i64 d] w fun e w' => e = .returned (.bool (lg S x y d)) ∧ Below w.heap.size w w' := by
  have B2 := box2 w (.cells #[.int .i64 c, .int .i64 s] 27) (.cells #[.int .i64 x, .int .i64 y] 29)
  have S0 : Two ((w.alloc (.cells #[.int .i64 c, .int .i64 s] 27)).alloc (.cells #[.int .i64 x, .int .i64 y] 29)) w.heap.size c s := (Two.newAt rfl).alloc
  have C0 : Two ((w.alloc (.cells #[.int .i64 c, .int .i64 s] 27)).alloc (.cells #[.int .i64 x, .int .i64 y] 29)) (w.heap.size + 1) x y := Two.newAt (by simp)
  unfold sidesV at HD
  unfold lg
  obtain ⟨tx, htx⟩ : ∃ tx, sX x y d = tx := ⟨_, rfl⟩
  obtain ⟨ty, hty⟩ : ∃ ty, sY x y d = ty := ⟨_, rfl⟩
  obtain ⟨ax, hax⟩ : ∃ ax, siX x y d = ax := ⟨_, rfl⟩
  obtain ⟨ay, hay⟩ : ∃ ay, si0 x y d y = ay := ⟨_, rfl⟩
  obtain ⟨bx, hbx⟩ : ∃ bx, si0 x y d x = bx := ⟨_, rfl⟩
  obtain ⟨bY, hby⟩ : ∃ bY, siY x y d = bY := ⟨_, rfl⟩
  rw [htx, hty] at HT
  rw [hax, hay, hbx, hby] at HD
  rw [htx, hty, hax, hay, hbx, hby]
  clear htx hty hax hay hbx hby
  have HS' : ∀ wx (b : Bool) u v, Below w.heap.size w wx → S u v = b → Calls Tryz.prog 37 #[ptr p, shv c s, cel u v] wx fun e w' => e = .returned (.bool b) ∧ Below wx.heap.size wx w' := fun wx b u v hb he => he ▸ HS wx hb u v
  clear HS
  cases g1 : sB x y d
  · rw [g1] at HT
    go_enter Tryz.func51, Tryz.ntmps51
    go_wp2_with fail
    refine (HT _ B2).mono ?_
    rintro e w1 ⟨rfl, hb1⟩
    have HB1 := hide (bt B2 hb1)
    have S1 := hide (S0.kept hb1)
    have C1 := hide (C0.kept hb1)
    clear S0 C0 hb1
    have BX : Below w1.heap.size w1 (w1.alloc (.cells #[.int .i64 tx, .int .i64 ty] 29)) := box1 _ _
    have T2 : Two (w1.alloc (.cells #[.int .i64 tx, .int .i64 ty] 29)) w1.heap.size tx ty := Two.newAt rfl
    obtain ⟨w2, h2⟩ : ∃ w2, w1.alloc (.cells #[.int .i64 tx, .int .i64 ty] 29) = w2 := ⟨_, rfl⟩
    rw [h2] at BX T2
    have S2 := S1.out.kept BX
    have C2 := C1.out.kept BX
    have HB2 := hide (bt HB1.out BX)
    go_wp2_with fail
    clear h2
    go_ret
    exact ⟨ret_bool (by simp []), HB2.out⟩
  · rw [g1] at HT
    cases g2 : S x y
    · go_enter Tryz.func51, Tryz.ntmps51
      go_wp2_with fail
      refine (HT _ B2).mono ?_
      rintro e w1 ⟨rfl, hb1⟩
      have HB1 := hide (bt B2 hb1)
      have S1 := hide (S0.kept hb1)
      have C1 := hide (C0.kept hb1)
      clear S0 C0 hb1
      have BX : Below w1.heap.size w1 (w1.alloc (.cells #[.int .i64 tx, .int .i64 ty] 29)) := box1 _ _
      have T2 : Two (w1.alloc (.cells #[.int .i64 tx, .int .i64 ty] 29)) w1.heap.size tx ty := Two.newAt rfl
      obtain ⟨w2, h2⟩ : ∃ w2, w1.alloc (.cells #[.int .i64 tx, .int .i64 ty] 29) = w2 := ⟨_, rfl⟩
      rw [h2] at BX T2
      have S2 := S1.out.kept BX
      have C2 := C1.out.kept BX
      have HB2 := hide (bt HB1.out BX)
      obtain ⟨⟨c0, c1⟩, -, -⟩ := id C2
      obtain ⟨⟨s0, s1⟩, -, -⟩ := id S2
      go_wp2_with fail
      clear h2
      refine (HS' _ _ _ _ HB2.out g2).mono ?_
      rintro e w3 ⟨rfl, hb3⟩
      have HB3 := hide (bt HB2.out hb3)
      have S3 := S2.kept hb3
      have C3 := C2.kept hb3
      have T3 := T2.kept hb3
      clear hb3 c0 c1 s0 s1
      go_wp2_with fail
      go_ret
      exact ⟨ret_bool (by simp []), HB3.out⟩
    · cases g3 : S tx ty
      · go_enter Tryz.func51, Tryz.ntmps51
        go_wp2_with fail
        refine (HT _ B2).mono ?_
        rintro e w1 ⟨rfl, hb1⟩
        have HB1 := hide (bt B2 hb1)
        have S1 := hide (S0.kept hb1)
        have C1 := hide (C0.kept hb1)
        clear S0 C0 hb1
        have BX : Below w1.heap.size w1 (w1.alloc (.cells #[.int .i64 tx, .int .i64 ty] 29)) := box1 _ _
        have T2 : Two (w1.alloc (.cells #[.int .i64 tx, .int .i64 ty] 29)) w1.heap.size tx ty := Two.newAt rfl
        obtain ⟨w2, h2⟩ : ∃ w2, w1.alloc (.cells #[.int .i64 tx, .int .i64 ty] 29) = w2 := ⟨_, rfl⟩
        rw [h2] at BX T2
        have S2 := S1.out.kept BX
        have C2 := C1.out.kept BX
        have HB2 := hide (bt HB1.out BX)
        obtain ⟨⟨c0, c1⟩, -, -⟩ := id C2
        obtain ⟨⟨s0, s1⟩, -, -⟩ := id S2
        go_wp2_with fail
        clear h2
        refine (HS' _ _ _ _ HB2.out g2).mono ?_
        rintro e w3 ⟨rfl, hb3⟩
        have HB3 := hide (bt HB2.out hb3)
        have S3 := S2.kept hb3
        have C3 := C2.kept hb3
        have T3 := T2.kept hb3
        clear hb3 c0 c1 s0 s1
        obtain ⟨⟨t0, t1⟩, -, -⟩ := id T3
        obtain ⟨⟨s0, s1⟩, -, -⟩ := id S3
        go_wp2_with fail
        refine (HS' _ _ _ _ HB3.out g3).mono ?_
        rintro e w4 ⟨rfl, hb4⟩
        have HB4 := hide (bt HB3.out hb4)
        have S4 := S3.kept hb4
        have C4 := C3.kept hb4
        clear hb4 t0 t1 s0 s1
        go_wp2_with fail
        go_ret
        exact ⟨ret_bool (by simp []), HB4.out⟩
      · cases g4 : siB x y d
        · rw [g4] at HD
          go_enter Tryz.func51, Tryz.ntmps51
          go_wp2_with fail
          refine (HT _ B2).mono ?_
          rintro e w1 ⟨rfl, hb1⟩
          have HB1 := hide (bt B2 hb1)
          have S1 := hide (S0.kept hb1)
          have C1 := hide (C0.kept hb1)
          clear S0 C0 hb1
          have BX : Below w1.heap.size w1 (w1.alloc (.cells #[.int .i64 tx, .int .i64 ty] 29)) := box1 _ _
          have T2 : Two (w1.alloc (.cells #[.int .i64 tx, .int .i64 ty] 29)) w1.heap.size tx ty := Two.newAt rfl
          obtain ⟨w2, h2⟩ : ∃ w2, w1.alloc (.cells #[.int .i64 tx, .int .i64 ty] 29) = w2 := ⟨_, rfl⟩
          rw [h2] at BX T2
          have S2 := S1.out.kept BX
          have C2 := C1.out.kept BX
          have HB2 := hide (bt HB1.out BX)
          obtain ⟨⟨c0, c1⟩, -, -⟩ := id C2
          obtain ⟨⟨s0, s1⟩, -, -⟩ := id S2
          go_wp2_with fail
          clear h2
          refine (HS' _ _ _ _ HB2.out g2).mono ?_
          rintro e w3 ⟨rfl, hb3⟩
          have HB3 := hide (bt HB2.out hb3)
          have S3 := S2.kept hb3
          have C3 := C2.kept hb3
          have T3 := T2.kept hb3
          clear hb3 c0 c1 s0 s1
          obtain ⟨⟨t0, t1⟩, -, -⟩ := id T3
          obtain ⟨⟨s0, s1⟩, -, -⟩ := id S3
          go_wp2_with fail
          refine (HS' _ _ _ _ HB3.out g3).mono ?_
          rintro e w4 ⟨rfl, hb4⟩
          have HB4 := hide (bt HB3.out hb4)
          have S4 := S3.kept hb4
          have C4 := C3.kept hb4
          clear hb4 t0 t1 s0 s1
          obtain ⟨⟨c0, c1⟩, -, -⟩ := id C4
          go_wp2_with fail
          refine (HD _ HB4.out).mono ?_
          rintro e w5 ⟨rfl, hb5⟩
          have HB5 := hide (bt HB4.out hb5)
          have S5 := S4.kept hb5
          clear hb5 c0 c1
          have BZ : Below w5.heap.size w5 ((w5.alloc (.cells #[.int .i64 ax, .int .i64 ay] 29)).alloc (.cells #[.int .i64 bx, .int .i64 bY] 29)) := box2 _ _ _
          have TA : Two ((w5.alloc (.cells #[.int .i64 ax, .int .i64 ay] 29)).alloc (.cells #[.int .i64 bx, .int .i64 bY] 29)) w5.heap.size ax ay := (Two.newAt rfl).alloc
          have TB : Two ((w5.alloc (.cells #[.int .i64 ax, .int .i64 ay] 29)).alloc (.cells #[.int .i64 bx, .int .i64 bY] 29)) (w5.heap.size + 1) bx bY := Two.newAt (by simp)
          obtain ⟨w6, h6⟩ : ∃ w6, (w5.alloc (.cells #[.int .i64 ax, .int .i64 ay] 29)).alloc (.cells #[.int .i64 bx, .int .i64 bY] 29) = w6 := ⟨_, rfl⟩
          rw [h6] at BZ TA TB
          have S6 := S5.kept BZ
          have HB6 := hide (bt HB5.out BZ)
          go_wp2_with fail
          clear h6
          go_ret
          exact ⟨ret_bool (by simp []), HB6.out⟩
        · rw [g4] at HD
          cases g5 : S ax ay
          · go_enter Tryz.func51, Tryz.ntmps51
            go_wp2_with fail
            refine (HT _ B2).mono ?_
            rintro e w1 ⟨rfl, hb1⟩
            have HB1 := hide (bt B2 hb1)
            have S1 := hide (S0.kept hb1)
            have C1 := hide (C0.kept hb1)
            clear S0 C0 hb1
            have BX : Below w1.heap.size w1 (w1.alloc (.cells #[.int .i64 tx, .int .i64 ty] 29)) := box1 _ _
            have T2 : Two (w1.alloc (.cells #[.int .i64 tx, .int .i64 ty] 29)) w1.heap.size tx ty := Two.newAt rfl
            obtain ⟨w2, h2⟩ : ∃ w2, w1.alloc (.cells #[.int .i64 tx, .int .i64 ty] 29) = w2 := ⟨_, rfl⟩
            rw [h2] at BX T2
            have S2 := S1.out.kept BX
            have C2 := C1.out.kept BX
            have HB2 := hide (bt HB1.out BX)
            obtain ⟨⟨c0, c1⟩, -, -⟩ := id C2
            obtain ⟨⟨s0, s1⟩, -, -⟩ := id S2
            go_wp2_with fail
            clear h2
            refine (HS' _ _ _ _ HB2.out g2).mono ?_
            rintro e w3 ⟨rfl, hb3⟩
            have HB3 := hide (bt HB2.out hb3)
            have S3 := S2.kept hb3
            have C3 := C2.kept hb3
            have T3 := T2.kept hb3
            clear hb3 c0 c1 s0 s1
            obtain ⟨⟨t0, t1⟩, -, -⟩ := id T3
            obtain ⟨⟨s0, s1⟩, -, -⟩ := id S3
            go_wp2_with fail
            refine (HS' _ _ _ _ HB3.out g3).mono ?_
            rintro e w4 ⟨rfl, hb4⟩
            have HB4 := hide (bt HB3.out hb4)
            have S4 := S3.kept hb4
            have C4 := C3.kept hb4
            clear hb4 t0 t1 s0 s1
            obtain ⟨⟨c0, c1⟩, -, -⟩ := id C4
            go_wp2_with fail
            refine (HD _ HB4.out).mono ?_
            rintro e w5 ⟨rfl, hb5⟩
            have HB5 := hide (bt HB4.out hb5)
            have S5 := S4.kept hb5
            clear hb5 c0 c1
            have BZ : Below w5.heap.size w5 ((w5.alloc (.cells #[.int .i64 ax, .int .i64 ay] 29)).alloc (.cells #[.int .i64 bx, .int .i64 bY] 29)) := box2 _ _ _
            have TA : Two ((w5.alloc (.cells #[.int .i64 ax, .int .i64 ay] 29)).alloc (.cells #[.int .i64 bx, .int .i64 bY] 29)) w5.heap.size ax ay := (Two.newAt rfl).alloc
            have TB : Two ((w5.alloc (.cells #[.int .i64 ax, .int .i64 ay] 29)).alloc (.cells #[.int .i64 bx, .int .i64 bY] 29)) (w5.heap.size + 1) bx bY := Two.newAt (by simp)
            obtain ⟨w6, h6⟩ : ∃ w6, (w5.alloc (.cells #[.int .i64 ax, .int .i64 ay] 29)).alloc (.cells #[.int .i64 bx, .int .i64 bY] 29) = w6 := ⟨_, rfl⟩
            rw [h6] at BZ TA TB
            have S6 := S5.kept BZ
            have HB6 := hide (bt HB5.out BZ)
            obtain ⟨⟨a0, a1⟩, -, -⟩ := id TA
            obtain ⟨⟨s0, s1⟩, -, -⟩ := id S6
            go_wp2_with fail
            clear h6
            refine (HS' _ _ _ _ HB6.out g5).mono ?_
            rintro e w7 ⟨rfl, hb7⟩
            have HB7 := hide (bt HB6.out hb7)
            have S7 := S6.kept hb7
            have TB7 := TB.kept hb7
            clear hb7 a0 a1 s0 s1
            go_wp2_with fail
            go_ret
            exact ⟨ret_bool (by simp []), HB7.out⟩
          · go_enter Tryz.func51, Tryz.ntmps51
            go_wp2_with fail
            refine (HT _ B2).mono ?_
            rintro e w1 ⟨rfl, hb1⟩
            have HB1 := hide (bt B2 hb1)
            have S1 := hide (S0.kept hb1)
            have C1 := hide (C0.kept hb1)
            clear S0 C0 hb1
            have BX : Below w1.heap.size w1 (w1.alloc (.cells #[.int .i64 tx, .int .i64 ty] 29)) := box1 _ _
            have T2 : Two (w1.alloc (.cells #[.int .i64 tx, .int .i64 ty] 29)) w1.heap.size tx ty := Two.newAt rfl
            obtain ⟨w2, h2⟩ : ∃ w2, w1.alloc (.cells #[.int .i64 tx, .int .i64 ty] 29) = w2 := ⟨_, rfl⟩
            rw [h2] at BX T2
            have S2 := S1.out.kept BX
            have C2 := C1.out.kept BX
            have HB2 := hide (bt HB1.out BX)
            obtain ⟨⟨c0, c1⟩, -, -⟩ := id C2
            obtain ⟨⟨s0, s1⟩, -, -⟩ := id S2
            go_wp2_with fail
            clear h2
            refine (HS' _ _ _ _ HB2.out g2).mono ?_
            rintro e w3 ⟨rfl, hb3⟩
            have HB3 := hide (bt HB2.out hb3)
            have S3 := S2.kept hb3
            have C3 := C2.kept hb3
            have T3 := T2.kept hb3
            clear hb3 c0 c1 s0 s1
            obtain ⟨⟨t0, t1⟩, -, -⟩ := id T3
            obtain ⟨⟨s0, s1⟩, -, -⟩ := id S3
            go_wp2_with fail
            refine (HS' _ _ _ _ HB3.out g3).mono ?_
            rintro e w4 ⟨rfl, hb4⟩
            have HB4 := hide (bt HB3.out hb4)
            have S4 := S3.kept hb4
            have C4 := C3.kept hb4
            clear hb4 t0 t1 s0 s1
            obtain ⟨⟨c0, c1⟩, -, -⟩ := id C4
            go_wp2_with fail
            refine (HD _ HB4.out).mono ?_
            rintro e w5 ⟨rfl, hb5⟩
            have HB5 := hide (bt HB4.out hb5)
            have S5 := S4.kept hb5
            clear hb5 c0 c1
            have BZ : Below w5.heap.size w5 ((w5.alloc (.cells #[.int .i64 ax, .int .i64 ay] 29)).alloc (.cells #[.int .i64 bx, .int .i64 bY] 29)) := box2 _ _ _
            have TA : Two ((w5.alloc (.cells #[.int .i64 ax, .int .i64 ay] 29)).alloc (.cells #[.int .i64 bx, .int .i64 bY] 29)) w5.heap.size ax ay := (Two.newAt rfl).alloc
            have TB : Two ((w5.alloc (.cells #[.int .i64 ax, .int .i64 ay] 29)).alloc (.cells #[.int .i64 bx, .int .i64 bY] 29)) (w5.heap.size + 1) bx bY := Two.newAt (by simp)
            obtain ⟨w6, h6⟩ : ∃ w6, (w5.alloc (.cells #[.int .i64 ax, .int .i64 ay] 29)).alloc (.cells #[.int .i64 bx, .int .i64 bY] 29) = w6 := ⟨_, rfl⟩
            rw [h6] at BZ TA TB
            have S6 := S5.kept BZ
            have HB6 := hide (bt HB5.out BZ)
            obtain ⟨⟨a0, a1⟩, -, -⟩ := id TA
            obtain ⟨⟨s0, s1⟩, -, -⟩ := id S6
            go_wp2_with fail
            clear h6
            refine (HS' _ _ _ _ HB6.out g5).mono ?_
            rintro e w7 ⟨rfl, hb7⟩
            have HB7 := hide (bt HB6.out hb7)
            have S7 := S6.kept hb7
            have TB7 := TB.kept hb7
            clear hb7 a0 a1 s0 s1
            obtain ⟨⟨b0, b1⟩, -, -⟩ := id TB7
            obtain ⟨⟨s0, s1⟩, -, -⟩ := id S7
            go_wp2_with fail
            refine (HS' _ _ _ _ HB7.out rfl).mono ?_
            rintro e w8 ⟨rfl, hb8⟩
            have HB8 := hide (bt HB7.out hb8)
            clear hb8 b0 b1 s0 s1
            go_wp2_with fail
            go_ret
            exact ⟨ret_bool (by simp []), HB8.out⟩
/-- The slice v, wherever it begins, reads as the cells P. -/
def CeR (w : World) (v : Value) (P : List (Int × Int)) : Prop :=
  ∃ a cap, v = .slice a P.length cap ∧ P.length ≤ cap ∧ P.length ≤ maxLen ∧ (a = none → P.length = 0 ∧ cap = 0) ∧ ∀ (i : Nat) q, P[i]? = some q → ∃ g o, a = some ⟨g, o, none⟩ ∧ g < w.heap.size ∧ w.cell? ⟨g, o + i * 2, none⟩ = some (.int .i64 q.1) ∧ w.cell? ⟨g, o + i * 2 + 1, none⟩ = some (.int .i64 q.2)
theorem CeR.kept {w w' : World} {v : Value} {P : List (Int × Int)} (h : CeR w v P) (hb : Below w.heap.size w w') : CeR w' v P := by
  obtain ⟨a, cap, e, h1, h2, h3, h4⟩ := h
  refine ⟨a, cap, e, h1, h2, h3, fun i x hx => ?_⟩
  obtain ⟨g, o, e1, e2, e3, e4⟩ := h4 i x hx
  exact ⟨g, o, e1, Nat.lt_of_lt_of_le e2 hb.size, (hb.cell (p := ⟨g, _, none⟩) e2).trans e3, (hb.cell (p := ⟨g, _, none⟩) e2).trans e4⟩
def costF : Int → Int → List (Int × Int) → Int → Int
  | _, _, [], n => n
  | x, y, q :: r, n => if dirN x y q.1 q.2 < 0 then -1 else costF q.1 q.2 r (n + co (dirN x y q.1 q.2))
def costV (x y : Int) (P : List (Int × Int)) : Int := if 16384 < P.length then -1 else costF x y P 0
theorem co_range (d : Int) : 0 ≤ co d ∧ co d ≤ 14 := by
  unfold co
  split
  · split <;> omega
  · omega
theorem drop_cons' {P : List (Int × Int)} {k : Nat} {q : Int × Int} (h : P[k]? = some q) : P.drop k = q :: P.drop (k + 1) := by
  obtain ⟨hl, hq⟩ := List.getElem?_eq_some_iff.1 h
  rw [List.drop_eq_getElem_cons hl, hq]
theorem refdir_is {x y tx ty d : Int} (w : World) (h : dirN x y tx ty = d) : Calls Tryz.prog 24 #[.agg #[.int .i64 x, .int .i64 y], .agg #[.int .i64 tx, .int .i64 ty]] w fun e w' => e = .returned (.int .i64 d) ∧ Below w.heap.size w w' := by subst h; exact refdir_any x y tx ty w
set_option maxRecDepth 100000 in
set_option maxHeartbeats 4000000 in
theorem refpcost_any (x y : Int) (v : Value) (P : List (Int × Int)) (w : World) (hv : CeR w v P) :
    Calls Tryz.prog 21 #[cel x y, v] w fun e w' => e = .returned (.int .i64 (costV x y P)) ∧ Below w.heap.size w w' := by
  have hv' := hv
  obtain ⟨a, cap, rfl, hcap, hmax, -, -⟩ := hv'
  have hl63 : (0 : Int) ≤ (P.length : Nat) ∧ ((P.length : Nat) : Int) ≤ 9223372036854775807 := by
    have : P.length ≤ 9223372036854775807 := hmax
    omega
  have B0 : Below w.heap.size w (w.alloc (.cells #[.int .i64 x, .int .i64 y] 29)) := box1 _ _
  have T0 : Two (w.alloc (.cells #[.int .i64 x, .int .i64 y] 29)) w.heap.size x y := Two.newAt rfl
  obtain ⟨X, hX⟩ : ∃ X, w.alloc (.cells #[.int .i64 x, .int .i64 y] 29) = X := ⟨_, rfl⟩
  rw [hX] at B0 T0
  by_cases hlong : (16384 : Int) < (P.length : Nat)
  · rw [show costV x y P = -1 by rw [costV, if_pos (by omega)]]
    go_enter Tryz.func21, Tryz.ntmps21
    go_wp2_with fail
    go_ret
    exact ⟨rfl, B0⟩
  obtain ⟨c, hc⟩ : ∃ c, costV x y P = c := ⟨_, rfl⟩
  have hc0 : costF x y P 0 = c := by rw [← hc, costV, if_neg (by omega)]
  rw [hc]
  clear hc
  go_enter Tryz.func21, Tryz.ntmps21
  go_wp2_with fail
  clear hX
  go_loopw [5, 6] (fun s5 s6 wr => ∃ (k : Nat) (fx fy n : Int), k ≤ P.length ∧ s6 = .int .i64 k ∧ s5 = .int .i64 n ∧ (0 ≤ n ∧ n ≤ 14 * k) ∧ costF fx fy (P.drop k) n = c ∧ Two wr w.heap.size fx fy ∧ Below w.heap.size w wr) (fun s5 s6 _ => P.length - (intOf s6).toNat)
  case atStart => exact ⟨0, x, y, 0, Nat.zero_le _, rfl, rfl, by omega, by simpa using hc0, T0, B0⟩
  case round =>
    obtain ⟨k, fx, fy, n, hk, rfl, rfl, hn, hco, hT, hB⟩ := hrel
    by_cases hlt : k < P.length
    · obtain ⟨q, hq⟩ : ∃ q, P[k]? = some q := ⟨_, List.getElem?_eq_getElem hlt⟩
      obtain ⟨g, o, hga, hgl, c0, c1⟩ : ∃ g o, a = some ⟨g, o, none⟩ ∧ g < wr.heap.size ∧ wr.cell? ⟨g, o + k * 2, none⟩ = some (.int .i64 q.1) ∧ wr.cell? ⟨g, o + k * 2 + 1, none⟩ = some (.int .i64 q.2) := by
        obtain ⟨a', cap', he', _, _, _, hform⟩ := hv.kept hB
        obtain ⟨g', o', hgg, h0, e1, e2⟩ := hform k q hq
        injection he' with h1 h2 h3
        exact ⟨g', o', h1.trans hgg, h0, e1, e2⟩
      subst hga
      rw [drop_cons' hq, costF] at hco
      have hki : (k : Int) < (P.length : Nat) := by omega
      have l0 : ∀ n : Lat wr, n.w.cell? ⟨g, o + k * 2, none⟩ = some (.int .i64 q.1) := fun n => (n.h.cell (p := ⟨g, _, none⟩) hgl).trans c0
      have l1 : ∀ n : Lat wr, n.w.cell? ⟨g, o + k * 2 + 1, none⟩ = some (.int .i64 q.2) := fun n => (n.h.cell (p := ⟨g, _, none⟩) hgl).trans c1
      obtain ⟨f0, f1⟩ := hT.lat
      have hne := lat_some wr
      obtain ⟨d, hd⟩ : ∃ d, dirN fx fy q.1 q.2 = d := ⟨_, rfl⟩
      have HD := hide hd
      rw [hd] at hco
      have hrg := co_range d
      clear hd c0 c1
      go_wp2_with fail
      refine wp_region_lat (by kernel_rfl) (by kernel_rfl) ?_
      repeat (go_big_quiet_step (first | (go_at_call 24; exact calls_lat (refdir_is _ HD.out))))
      refine wpQuiet_nil ?_
      rintro _ ⟨m, rfl⟩
      have TF2 := hT.kept m.h
      have HB2 := hide (bt hB m.h)
      have t0 := l0 m
      have t1 := l1 m
      clear HD l0 l1 f0 f1 hT hB
      by_cases hneg : d < 0
      · rw [if_pos hneg] at hco
        go_wp2_with fail
        go_ret
        exact ⟨ret_int hco, HB2.out⟩
      · rw [if_neg hneg] at hco
        obtain ⟨⟨f0, f1⟩, ⟨f2, f3⟩, fz⟩ := id TF2
        have hw : IntKind.i64.wrap (n + co d) = n + co d := by rw [IntKind.wrap_i64]; omega
        go_wp2_with (go_at_call 23; refine (refcost_any _ _).mono ?_; rintro e w' ⟨rfl, rfl⟩)
        go_roundw
        case rel =>
          refine ⟨k + 1, q.1, q.2, n + co d, by omega, by go_num, rfl, by omega, hco, ?_, ?_⟩
          · exact Two.set TF2
          · exact (HB2.out.setCell (p := ⟨w.heap.size, 0, none⟩) (by simp) _).setCell (p := ⟨w.heap.size, 1, none⟩) (by simp) _
        case measure => simp [intOf]; omega
    · obtain rfl : k = P.length := by omega
      rw [List.drop_length, costF] at hco
      have hki : ¬ ((P.length : Nat) : Int) < (P.length : Nat) := by omega
      go_wp2_with fail
      go_ret
      exact ⟨rfl, hB⟩
def legF (S : Int → Int → Bool) : Int → Int → List (Int × Int) → Bool
  | _, _, [] => true
  | x, y, q :: r => lg S x y (dirN x y q.1 q.2) && legF S q.1 q.2 r
def legV (S : Int → Int → Bool) (x y : Int) (P : List (Int × Int)) : Bool := S x y && legF S x y P
theorem lg_neg {S : Int → Int → Bool} {x y d : Int} (h : d < 0) : lg S x y d = false := by
  have h1 : isD d = false := (isD_not d).2 (by omega)
  have : sB x y d = false := sB_no1 h1
  simp [lg, this]
set_option maxRecDepth 100000 in
set_option maxHeartbeats 4000000 in
theorem reflegal_of (p : Nat) (S : Int → Int → Bool) (c s x y : Int) (v : Value) (P : List (Int × Int)) (w : World) (hv : CeR w v P)
    (HS : ∀ wx, Below w.heap.size w wx → ∀ x y, Calls Tryz.prog 37 #[ptr p, shv c s, cel x y] wx fun e w' => e = .returned (.bool (S x y)) ∧ Below wx.heap.size wx w')
    (HT : ∀ wx, Below w.heap.size w wx → ∀ x y d, Calls Tryz.prog 51 #[ptr p, shv c s, cel x y, .int .i64 d] wx fun e w' => e = .returned (.bool (lg S x y d)) ∧ Below wx.heap.size wx w') :
    Calls Tryz.prog 20 #[ptr p, shv c s, cel x y, v] w fun e w' => e = .returned (.bool (legV S x y P)) ∧ Below w.heap.size w w' := by
  have hv' := hv
  obtain ⟨a, cap, rfl, hcap, hmax, -, -⟩ := hv'
  have hl63 : (0 : Int) ≤ (P.length : Nat) ∧ ((P.length : Nat) : Int) ≤ 9223372036854775807 := by
    have : P.length ≤ 9223372036854775807 := hmax
    omega
  have B0 := box2 w (.cells #[.int .i64 c, .int .i64 s] 27) (.cells #[.int .i64 x, .int .i64 y] 29)
  have S0 : Two ((w.alloc (.cells #[.int .i64 c, .int .i64 s] 27)).alloc (.cells #[.int .i64 x, .int .i64 y] 29)) w.heap.size c s := (Two.newAt rfl).alloc
  have C0 : Two ((w.alloc (.cells #[.int .i64 c, .int .i64 s] 27)).alloc (.cells #[.int .i64 x, .int .i64 y] 29)) (w.heap.size + 1) x y := Two.newAt (by simp)
  obtain ⟨X, hX⟩ : ∃ X, (w.alloc (.cells #[.int .i64 c, .int .i64 s] 27)).alloc (.cells #[.int .i64 x, .int .i64 y] 29) = X := ⟨_, rfl⟩
  rw [hX] at B0 S0 C0
  have HT' : Hid (∀ wx (b : Bool) u v d, Below w.heap.size w wx → lg S u v d = b → Calls Tryz.prog 51 #[ptr p, shv c s, cel u v, .int .i64 d] wx fun e w' => e = .returned (.bool b) ∧ Below wx.heap.size wx w') := hide fun wx b u v d hb he => he ▸ HT wx hb u v d
  have HS' := hide (HS X B0 x y)
  obtain ⟨⟨s0, s1⟩, -, -⟩ := id S0
  obtain ⟨⟨c0, c1⟩, -, -⟩ := id C0
  unfold legV
  clear HT HS
  cases g : S x y
  · rw [g] at HS'
    go_enter Tryz.func20, Tryz.ntmps20
    go_wp2_with fail
    refine HS'.out.mono ?_
    rintro e w1 ⟨rfl, hb1⟩
    have HB1 := hide (bt B0 hb1)
    clear hX s0 s1 c0 c1 hb1
    go_wp2_with fail
    go_ret
    exact ⟨rfl, HB1.out⟩
  · rw [g] at HS'
    obtain ⟨r, hr⟩ : ∃ r, (true && legF S x y P) = r := ⟨_, rfl⟩
    have hc0 : legF S x y P = r := by rw [← hr, Bool.true_and]
    rw [hr]
    clear hr
    go_enter Tryz.func20, Tryz.ntmps20
    go_wp2_with fail
    refine HS'.out.mono ?_
    rintro e w1 ⟨rfl, hb1⟩
    have S1 := S0.kept hb1
    have C1 := C0.kept hb1
    have B1 := bt B0 hb1
    clear hX s0 s1 c0 c1 hb1 S0 C0 B0 HS'
    go_wp2_with fail
    go_loopw [9] (fun s18 wr => ∃ (k : Nat) (fx fy : Int), k ≤ P.length ∧ s18 = .int .i64 k ∧ legF S fx fy (P.drop k) = r ∧ Two wr (w.heap.size + 1) fx fy ∧ Two wr w.heap.size c s ∧ Below w.heap.size w wr) (fun s18 _ => P.length - (intOf s18).toNat)
    case atStart => exact ⟨0, x, y, Nat.zero_le _, rfl, by simpa using hc0, C1, S1, B1⟩
    case round =>
      obtain ⟨k, fx, fy, hk, rfl, hco, hT, hS, hB⟩ := hrel
      by_cases hlt : k < P.length
      · obtain ⟨q, hq⟩ : ∃ q, P[k]? = some q := ⟨_, List.getElem?_eq_getElem hlt⟩
        obtain ⟨g, o, hga, hgl, c0, c1⟩ : ∃ g o, a = some ⟨g, o, none⟩ ∧ g < wr.heap.size ∧ wr.cell? ⟨g, o + k * 2, none⟩ = some (.int .i64 q.1) ∧ wr.cell? ⟨g, o + k * 2 + 1, none⟩ = some (.int .i64 q.2) := by
          obtain ⟨a', cap', he', _, _, _, hform⟩ := hv.kept hB
          obtain ⟨g', o', hgg, h0, e1, e2⟩ := hform k q hq
          injection he' with h1 h2 h3
          exact ⟨g', o', h1.trans hgg, h0, e1, e2⟩
        subst hga
        rw [drop_cons' hq, legF] at hco
        have hki : (k : Int) < (P.length : Nat) := by omega
        have l0 : ∀ n : Lat wr, n.w.cell? ⟨g, o + k * 2, none⟩ = some (.int .i64 q.1) := fun n => (n.h.cell (p := ⟨g, _, none⟩) hgl).trans c0
        have l1 : ∀ n : Lat wr, n.w.cell? ⟨g, o + k * 2 + 1, none⟩ = some (.int .i64 q.2) := fun n => (n.h.cell (p := ⟨g, _, none⟩) hgl).trans c1
        obtain ⟨f0, f1⟩ := hT.lat
        have hne := lat_some wr
        obtain ⟨d, hd⟩ : ∃ d, dirN fx fy q.1 q.2 = d := ⟨_, rfl⟩
        have HDd := hide hd
        rw [hd] at hco
        have HCO := hide hco
        clear hd c0 c1 hco
        go_wp2_with fail
        refine wp_region_lat (by kernel_rfl) (by kernel_rfl) ?_
        repeat (go_big_quiet_step (first | (go_at_call 24; exact calls_lat (refdir_is _ HDd.out))))
        refine wpQuiet_nil ?_
        rintro _ ⟨m, rfl⟩
        have TF2 := hT.kept m.h
        have TS2 := hS.kept m.h
        have HB2 := hide (bt hB m.h)
        have t0 := l0 m
        have t1 := l1 m
        clear HDd l0 l1 f0 f1 hT hS hB
        by_cases hneg : d < 0
        · have hF := HCO.out
          rw [lg_neg hneg, Bool.false_and] at hF
          have HF := hide hF
          clear hF
          go_wp2_with fail
          go_ret
          exact ⟨ret_bool HF.out, HB2.out⟩
        · obtain ⟨⟨f0, f1⟩, -, -⟩ := id TF2
          obtain ⟨⟨s0, s1⟩, -, -⟩ := id TS2
          cases hlg : lg S fx fy d
          · have hF := HCO.out
            rw [hlg, Bool.false_and] at hF
            have HF := hide hF
            have HLG := hide hlg
            clear hF hlg
            go_wp2_with fail
            refine (HT'.out _ _ _ _ _ HB2.out HLG.out).mono ?_
            rintro e w3 ⟨rfl, hb3⟩
            have HB3 := hide (bt HB2.out hb3)
            clear f0 f1 s0 s1 t0 t1 hb3
            go_wp2_with fail
            go_ret
            exact ⟨ret_bool HF.out, HB3.out⟩
          · have hF := HCO.out
            rw [hlg, Bool.true_and] at hF
            have HF := hide hF
            have HLG := hide hlg
            clear hF hlg
            go_wp2_with fail
            refine (HT'.out _ _ _ _ _ HB2.out HLG.out).mono ?_
            rintro e w3 ⟨rfl, hb3⟩
            have HB3 := hide (bt HB2.out hb3)
            have TF3 := TF2.kept hb3
            have TS3 := TS2.kept hb3
            have u0 := (hb3.cell (p := ⟨g, o + k * 2, none⟩) (World.block_lt_of_cell? _ _ t0)).trans t0
            have u1 := (hb3.cell (p := ⟨g, o + k * 2 + 1, none⟩) (World.block_lt_of_cell? _ _ t1)).trans t1
            obtain ⟨⟨g0, g1⟩, ⟨g2, g3⟩, gz⟩ := id TF3
            clear f0 f1 s0 s1 t0 t1 hb3
            go_wp2_with fail
            go_roundw
            case rel =>
              refine ⟨k + 1, q.1, q.2, by omega, by go_num, HF.out, Two.set TF3, TS3.other (by omega), ?_⟩
              exact (HB3.out.setCell (p := ⟨w.heap.size + 1, 0, none⟩) (by simp) _).setCell (p := ⟨w.heap.size + 1, 1, none⟩) (by simp) _
            case measure => simp [intOf]; omega
      · obtain rfl : k = P.length := by omega
        rw [List.drop_length, legF] at hco
        have HCO := hide hco
        clear hco
        have hki : ¬ ((P.length : Nat) : Int) < (P.length : Nat) := by omega
        go_wp2_with fail
        go_ret
        exact ⟨ret_bool HCO.out, hB⟩
end Go.Proofs.YtggaobcdogbjhaaGreatDoor
set_option linter.unusedSimpArgs false
namespace Go.Proofs.YtggaobcdogbjhaaGreatDoor
open Go.RowKit Go.Shelf
set_option linter.unusedVariables false
theorem st_has {W H : Int} {tl : List Nat} {f : Int → Int → Option Int} {c s u v : Int} (h : stB W H tl f c s u v = true) : has 0 0 W H u v = true := by
  simp only [stB, stU, wi, Bool.and_eq_true] at h
  obtain ⟨⟨hm, h1, -⟩, -⟩ := h
  cases hb : fB c s u v
  · rw [fi_no hb] at hm
    have := ((may_iff _ _ _ _).1 hm).2.1
    rw [fi_no hb] at this
    omega
  · rw [fi_yes hb, fi_yes hb] at h1
    exact h1
theorem st_in {W H : Int} {tl : List Nat} {f : Int → Int → Option Int} {c s : Int} (hW : 1 ≤ W ∧ W ≤ 128) (hH : 1 ≤ H ∧ H ≤ 128) (u v : Int) (h : stB W H tl f c s u v = true) : (0 ≤ u ∧ u < W) ∧ 0 ≤ v ∧ v < H := by
  have := (has_iff _ _ _ _ _ _).1 (st_has h)
  omega
theorem dims_is {W H : Int} {tl : List Nat} {L : List Bd} (hc : chkC W H tl L = 0) : ∃ wd ht : Nat, W = (wd : Int) ∧ H = (ht : Int) ∧ (1 ≤ wd ∧ wd ≤ 128) ∧ 1 ≤ ht ∧ ht ≤ 128 := by
  have h := (chkC_zero hc).1
  simp only [mt, gs, Bool.and_eq_true, decide_eq_true_eq] at h
  exact ⟨W.toNat, H.toNat, by omega, by omega, by omega, by omega⟩
theorem gS_st {wd ht : Nat} {tl : List Nat} {f : Int → Int → Option Int} {c s : Int} (hd : (1 ≤ wd ∧ wd ≤ 128) ∧ 1 ≤ ht ∧ ht ≤ 128) :
    gS wd ht (fun k => stB wd ht tl f c s ((k % wd : Nat) : Int) ((k / wd : Nat) : Int)) = stB wd ht tl f c s := by
  funext x y
  unfold gS
  by_cases h : (0 ≤ x ∧ x < (wd : Nat)) ∧ 0 ≤ y ∧ y < (ht : Nat)
  · rw [decide_eq_true h, Bool.true_and]
    have e := idx_mod (w := wd) (x := x.toNat) (y := y.toNat) (by omega)
    simp only [e.1, e.2]
    rw [Int.toNat_of_nonneg h.1.1, Int.toNat_of_nonneg h.2.1]
  · rw [decide_eq_false h, Bool.false_and]
    cases hs : stB wd ht tl f c s x y
    · rfl
    · exact absurd (st_in (by omega) (by omega) x y hs) h
/-- What the document's Steps tells. -/
theorem dst_is {w : World} {wd ht N : Nat} {tl : List Nat} {f : Int → Int → Option Int} {c s : Int} {a : Option Addr} {n cap : Nat} (hd : (1 ≤ wd ∧ wd ≤ 128) ∧ 1 ≤ ht ∧ ht ≤ 128) (hN : N = wd * ht)
    (h : Rw 4 1 cB w (.slice a n cap) ((List.range N).map (fun k => stB wd ht tl f c s ((k % wd : Nat) : Int) ((k / wd : Nat) : Int)))) (d : Int) :
    ∀ wx, Below w.heap.size w wx → ∀ x y, Calls Tryz.prog 42 #[gdv wd ht (.slice a n cap), cel x y, .int .i64 d] wx fun e w' => e = .returned (.tuple #[cel (if lg (stB wd ht tl f c s) x y d = true then sX x y d else 0) (if lg (stB wd ht tl f c s) x y d = true then sY x y d else 0), .bool (lg (stB wd ht tl f c s) x y d)]) ∧ Below wx.heap.size wx w' := fun wx q x y => by
  have h1 := gsteps_of (w := wx) (wd := wd) (ht := ht) (iv := .slice a n cap) (gS wd ht (fun k => stB wd ht tl f c s ((k % wd : Nat) : Int) ((k / wd : Nat) : Int))) x y d a n cap rfl (fun wy k u v => gstands_any u v (show Gd wy wd ht N _ _ from (h.upto q).upto k) ⟨hd.1.2, hd.2.2⟩ hN)
  rwa [gS_st hd] at h1
/-- In block b lie n numbers, below 0 ones among them. -/
def Nmz (w : World) (b n : Nat) (C : Nat → Int) : Prop := w.heap[b]? = some (.cells ((List.range n).map (fun k => Value.int .i64 (C k))).toArray 3 (0, 0))
section
variable {w w' : World} {b n : Nat} {C C' : Nat → Int}
theorem Nmz.lt (h : Nmz w b n C) : b < w.heap.size := (Array.getElem?_eq_some_iff.1 h).1
theorem Nmz.kept {S : Nat → Prop} (h : Nmz w b n C) (ht : Turns S w w') (hs : ¬ S b) : Nmz w' b n C := ht.same hs h
theorem Nmz.upto (h : Nmz w b n C) (hb : Below w.heap.size w w') : Nmz w' b n C := (hb.block b h.lt).trans h
theorem Nmz.c (h : Nmz w b n C) {j : Nat} (hj : j < n) : w.cell? ⟨b, j, none⟩ = some (.int .i64 (C j)) := by
  rw [cell_of_row w b j _ _ _ h]; simp [hj]
theorem Nmz.fz (h : Nmz w b n C) (j : Nat) : w.frozen? ⟨b, j, none⟩ = false := by
  have h' : w.heap[b]? = _ := h
  simp [World.frozen?, h']
theorem Nmz.congr (h : Nmz w b n C) (e : ∀ k, k < n → C k = C' k) : Nmz w b n C' := by
  have h' : w.heap[b]? = _ := h
  unfold Nmz
  rw [h', List.map_congr_left (fun k hk => by rw [e k (List.mem_range.1 hk)])]
theorem Nmz.set (h : Nmz w b n C) {j : Nat} (hj : j < n) (x : Int) : Nmz (w.setCell ⟨b, j, none⟩ (.int .i64 x)) b n (fun i => if i = j then x else C i) := by
  have h' : w.heap[b]? = _ := h
  unfold Nmz
  have e : ((List.range n).map (fun k => Value.int .i64 (C k))).set j (.int .i64 x) = (List.range n).map (fun i => Value.int .i64 (if i = j then x else C i)) := by
    refine List.ext_getElem (by simp) (fun i h1 h2 => ?_)
    simp only [List.getElem_set, List.getElem_map, List.getElem_range]
    by_cases hik : j = i
    · subst hik; simp
    · rw [if_neg hik, if_neg (fun e => hik e.symm)]
  simp [World.setCell, Array.getElem?_modify, h', e]
end
def cntP (N : Nat) (P : Nat → Bool) : Nat := ((List.range N).filter P).length
theorem cntP_le (N : Nat) (P : Nat → Bool) : cntP N P ≤ N := by
  have := List.length_filter_le P (List.range N)
  simpa [cntP] using this
theorem cntP_congr {N : Nat} {P Q : Nat → Bool} (h : ∀ i, i < N → P i = Q i) : cntP N P = cntP N Q := by
  unfold cntP
  rw [List.filter_congr (fun i hi => h i (List.mem_range.1 hi))]
theorem cntP_succ (N : Nat) (P : Nat → Bool) : cntP (N + 1) P = cntP N P + (if P N = true then 1 else 0) := by
  unfold cntP
  rw [List.range_succ, List.filter_append, List.length_append]
  cases h : P N <;> simp [h]
/-- A list without doubles that holds just what a question takes has so many. -/
theorem cntP_less {P Q : Nat → Bool} {j : Nat} : ∀ {N : Nat}, j < N → P j = true → Q j = false → (∀ i, i ≠ j → Q i = P i) → cntP N Q + 1 = cntP N P
  | 0, h, _, _, _ => by omega
  | N + 1, h, hp, hq, he => by
    rw [cntP_succ, cntP_succ]
    by_cases e : j = N
    · subst e
      rw [hp, hq, cntP_congr (fun i hi => he i (by omega))]
      simp
    · have := cntP_less (N := N) (by omega) hp hq he
      rw [he N (fun x => e x.symm)]
      omega
/-- How many have no number yet. -/
def zC (N : Nat) (C : Nat → Int) : Nat := cntP N (fun k => decide (C k < 0))
/-- The sum of all, those without a number counting as more than any. -/
def sC : Nat → (Nat → Int) → Nat
  | 0, _ => 0
  | N + 1, C => sC N C + (if C N < 0 then 20001 else (C N).toNat)
theorem sC_congr {C C' : Nat → Int} : ∀ {N : Nat}, (∀ k, k < N → C k = C' k) → sC N C = sC N C'
  | 0, _ => rfl
  | N + 1, h => by
    have := sC_congr (N := N) (fun k hk => h k (by omega))
    simp only [sC, this, h N (by omega)]
theorem sC_set {C : Nat → Int} {j : Nat} {x : Int} : ∀ {N : Nat}, j < N → 0 ≤ x → x ≤ 20000 → (C j < 0 ∨ x < C j) → sC N (fun i => if i = j then x else C i) < sC N C
  | 0, h, _, _, _ => by omega
  | N + 1, h, h0, h1, h2 => by
    by_cases e : j = N
    · subst e
      have := sC_congr (N := j) (C := fun i => if i = j then x else C i) (C' := C) (fun k hk => by rw [if_neg (by omega)])
      simp only [sC, this, if_true]
      rw [if_neg (by omega)]
      split <;> omega
    · have := sC_set (C := C) (N := N) (by omega) h0 h1 h2
      simp only [sC, if_neg (Ne.symm e)]
      omega
theorem sC_le {C : Nat → Int} : ∀ {N : Nat}, (∀ k, k < N → C k ≤ 20000) → sC N C ≤ 20001 * N
  | 0, _ => Nat.le_refl _
  | N + 1, h => by
    have := sC_le (N := N) (fun k hk => h k (by omega))
    have h2 := h N (by omega)
    simp only [sC]
    split <;> omega
/-- The sum of a block's numbers. -/
def vN : Value → Nat
  | .int _ z => if z < 0 then 20001 else z.toNat
  | _ => 0
def sW (w : World) (b : Nat) : Nat := match w.heap[b]? with
  | some (.cells c _ _) => (c.toList.map vN).sum
  | _ => 0
theorem sum_sC (C : Nat → Int) : ∀ n : Nat, (((List.range n).map (fun k => Value.int .i64 (C k))).map vN).sum = sC n C
  | 0 => rfl
  | n + 1 => by
    rw [List.range_succ, List.map_append, List.map_append, List.sum_append, sum_sC C n]
    simp [sC, vN]
theorem sW_of {w : World} {b n : Nat} {C : Nat → Int} (h : Nmz w b n C) : sW w b = sC n C := by
  have h' : w.heap[b]? = _ := h
  unfold sW
  rw [h']
  exact sum_sC C n
def flag : Value → Nat
  | .bool true => 1
  | _ => 0
section
variable {W H : Int} {tl : List Nat} {f : Int → Int → Option Int} {c s ix iy : Int} {rw rh : Nat}
/-- The cell at a place of the list. -/
def cl (ix iy : Int) (rw : Nat) (j : Nat) : Int × Int := (ix + ((j % rw : Nat) : Int), iy + ((j / rw : Nat) : Int))
theorem cl_in {j : Nat} (hj : j < rw * rh) : inB ix iy rw rh (cl ix iy rw j) := by
  have hr : 0 < rw := by
    rcases Nat.eq_zero_or_pos rw with h | h
    · subst h; simp at hj
    · exact h
  have h1 := Nat.mod_lt j hr
  have h2 : j / rw < rh := by rw [Nat.div_lt_iff_lt_mul hr, Nat.mul_comm]; exact hj
  unfold cl inB
  simp only
  generalize j % rw = X at *
  generalize j / rw = Y at *
  omega
theorem cl_ij (ix iy : Int) (hr : 0 < rw) (j : Nat) : ij ix iy rw (cl ix iy rw j).1 (cl ix iy rw j).2 = j := by
  have e := Nat.div_add_mod j rw
  unfold cl ij
  simp only
  generalize j % rw = X at *
  generalize j / rw = Y at *
  rw [show iy + (Y : Int) - iy = Y by omega, show ix + (X : Int) - ix = X by omega]
  have hc : ((rw * Y : Nat) : Int) = (Y : Int) * (rw : Int) := by push_cast; exact Int.mul_comm _ _
  omega
theorem area_nat (rw rh : Nat) : ((rh : Int) * (rw : Int)).toNat = rw * rh := by rw [Int.mul_comm, ← Int.natCast_mul]; rfl
theorem ij_cl {q : Int × Int} (hq : inB ix iy rw rh q) : ij ix iy rw q.1 q.2 < rw * rh ∧ cl ix iy rw (ij ix iy rw q.1 q.2) = q := by
  have hl := ij_lt hq
  rw [area_nat] at hl
  have hr : 0 < rw := by obtain ⟨⟨h1, h2⟩, -⟩ := hq; omega
  exact ⟨hl, ij_inj (cl_in hl) hq (cl_ij ix iy hr _)⟩
/-- A step of the document that stays in the rectangle is one of the search. -/
theorem lg_step {x y : Int} {d : Nat} {iw ih : Int} (hd : d < 8) (hs : stB W H tl f c s x y = true) : (lg (stB W H tl f c s) x y (d : Nat) = true ∧ has ix iy iw ih (x + dX d) (y + dY d) = true) ↔ (inn x y ix iy iw ih d = true ∧ stp W H tl f c s x y (d : Nat) = true) := by
  unfold lg inn stp
  cases hB : sB x y (d : Nat)
  · simp
  · rw [sX_yes hB, sY_yes hB, hs]
    unfold siX siY si0 siB
    rw [hB]
    simp only [Int.toNat_natCast, Bool.true_and]
    cases ho : oc (d : Nat)
    · simp [and_comm]
    · simp only [Bool.not_true, Bool.false_or, if_true, Bool.and_eq_true]
      constructor
      · rintro ⟨⟨h1, h2, h3⟩, h4⟩; exact ⟨h4, h1, h2, h3⟩
      · rintro ⟨h4, h1, h2, h3⟩; exact ⟨⟨h1, h2, h3⟩, h4⟩
/-- What the rounds keep. -/
structure Bf (W H : Int) (tl : List Nat) (f : Int → Int → Option Int) (c s ix iy : Int) (rw rh tg : Nat) (C : Nat → Int) : Prop where
  c0 : C tg = 0
  ge : ∀ i, i < rw * rh → -1 ≤ C i
  wk : ∀ i, i < rw * rh → 0 ≤ C i → Wk (stepR W H tl f c s ix iy rw rh) (cl ix iy rw tg) (cl ix iy rw i) (C i).toNat
  bd : ∀ i, i < rw * rh → 0 ≤ C i → C i + 14 * (zC (rw * rh) C : Nat) + 14 ≤ 14 * (rw * rh : Nat)
variable {tg : Nat} {C : Nat → Int}
theorem Bf.le (h : Bf W H tl f c s ix iy rw rh tg C) {i : Nat} (hi : i < rw * rh) : C i ≤ 14 * (rw * rh : Nat) := by
  by_cases h0 : 0 ≤ C i
  · have := h.bd i hi h0; omega
  · omega
theorem Bf.start (hto : tg < rw * rh) : Bf W H tl f c s ix iy rw rh tg (fun i => if i = tg then 0 else -1) := by
  refine ⟨by simp, fun i _ => by show (-1 : Int) ≤ (if i = tg then 0 else -1); split <;> omega, fun i _ h => ?_, fun i hi h => ?_⟩
  · by_cases e : i = tg
    · subst e; simp only [if_true]; exact .nil _
    · simp only [if_neg e] at h; omega
  · have e : i = tg := by
      by_cases e : i = tg
      · exact e
      · simp only [if_neg e] at h; omega
    subst e
    have hz : zC (rw * rh) (fun j => if j = i then (0 : Int) else -1) + 1 = cntP (rw * rh) (fun _ => true) := cntP_less hi rfl (by simp) (fun j hj => by simp [hj])
    have hN : cntP (rw * rh) (fun _ => true) = rw * rh := by unfold cntP; rw [List.filter_eq_self.2 (fun _ _ => rfl), List.length_range]
    simp only [if_true]
    omega
/-- A cell nearer than was known. -/
theorem Bf.turn (h : Bf W H tl f c s ix iy rw rh tg C) {i k : Nat} {co : Int} (hi : i < rw * rh) (hk : k < rw * rh) (hco : 10 ≤ co ∧ co ≤ 14) (hs : stepR W H tl f c s ix iy rw rh (cl ix iy rw i) (cl ix iy rw k) co.toNat) (h0 : 0 ≤ C i) (hv : C k < 0 ∨ C i + co < C k) : Bf W H tl f c s ix iy rw rh tg (fun j => if j = k then C i + co else C j) := by
  have hkt : k ≠ tg := by
    rintro rfl
    rw [h.c0] at hv
    omega
  have hki : i ≠ k := by
    rintro rfl
    omega
  refine ⟨by rw [if_neg (Ne.symm hkt)]; exact h.c0, fun j hj => ?_, fun j hj hj0 => ?_, fun j hj hj0 => ?_⟩
  · by_cases e : j = k
    · simp only [if_pos e]; omega
    · simp only [if_neg e]; exact h.ge j hj
  · by_cases e : j = k
    · subst e
      simp only [if_true]
      rw [show (C i + co).toNat = (C i).toNat + co.toNat by omega]
      exact (h.wk i hi h0).snoc hs
    · simp only [if_neg e] at hj0 ⊢; exact h.wk j hj hj0
  · have hz : zC (rw * rh) (fun j => if j = k then C i + co else C j) = (if C k < 0 then zC (rw * rh) C - 1 else zC (rw * rh) C) ∧ (C k < 0 → 1 ≤ zC (rw * rh) C) := by
      by_cases hk0 : C k < 0
      · have := cntP_less (P := fun m => decide (C m < 0)) (Q := fun m => decide ((if m = k then C i + co else C m) < 0)) hk (by simp [hk0]) (by simp; omega) (fun m hm => by simp [hm])
        have e1 : zC (rw * rh) (fun j => if j = k then C i + co else C j) + 1 = zC (rw * rh) C := this
        rw [if_pos hk0]
        omega
      · rw [if_neg hk0]
        refine ⟨cntP_congr (fun m _ => ?_), fun h => absurd h hk0⟩
        by_cases e : m = k
        · subst e; simp only [if_true]; rw [decide_eq_false (by omega), decide_eq_false hk0]
        · simp only [if_neg e]
    have hbi := h.bd i hi h0
    by_cases e : j = k
    · subst e
      simp only [if_true]
      rw [hz.1]
      by_cases hk0 : C j < 0
      · rw [if_pos hk0]; have := hz.2 hk0; omega
      · rw [if_neg hk0]
        have hbk := h.bd j hj (by omega)
        omega
    · simp only [if_neg e] at hj0 ⊢
      have := h.bd j hj hj0
      rw [hz.1]
      split <;> omega
/-- Nothing turns at place i in direction d. -/
def Fn (W H : Int) (tl : List Nat) (f : Int → Int → Option Int) (c s ix iy : Int) (rw rh : Nat) (C : Nat → Int) (i d : Nat) : Prop := 0 ≤ C i → ∀ k, k < rw * rh → lg (stB W H tl f c s) (cl ix iy rw i).1 (cl ix iy rw i).2 (d : Nat) = true → cl ix iy rw k = ((cl ix iy rw i).1 + dX d, (cl ix iy rw i).2 + dY d) → 0 ≤ C k ∧ C k ≤ C i + co (d : Nat)
/-- Where nothing turns the list tells how far all cells are. -/
theorem Bf.tbl (h : Bf W H tl f c s ix iy rw rh tg C) (hf : ∀ i, i < rw * rh → ∀ d, d < 8 → Fn W H tl f c s ix iy rw rh C i d) (hto : tg < rw * rh) (h0 : Std W H tl f c s ix iy rw rh (cl ix iy rw tg)) (hN : rw * rh ≤ 16384) :
    Tbl W H tl f c s ix iy rw rh (cl ix iy rw tg) ((List.range (rw * rh)).map C) := by
  have hr : 0 < rw := by
    rcases Nat.eq_zero_or_pos rw with h | h
    · subst h; simp at hto
    · exact h
  have hget : ∀ j, j < rw * rh → ((List.range (rw * rh)).map C)[j]? = some (C j) := fun j hj => by simp [hj]
  have htab : ∀ q g, tab ix iy rw rh ((List.range (rw * rh)).map C) q = some g → ∃ j, j < rw * rh ∧ cl ix iy rw j = q ∧ 0 ≤ C j ∧ (C j).toNat = g := fun q g hq => by
    by_cases hin : inB ix iy rw rh q
    · obtain ⟨e1, e2⟩ := ij_cl hin
      rw [tab_of hin (hget _ e1)] at hq
      split at hq
      · cases hq
      · injection hq with hq
        have := h.ge _ e1
        exact ⟨_, e1, e2, by omega, hq⟩
    · unfold tab at hq; rw [if_neg hin] at hq; cases hq
  have hput : ∀ j, j < rw * rh → 0 ≤ C j → tab ix iy rw rh ((List.range (rw * rh)).map C) (cl ix iy rw j) = some (C j).toNat := fun j hj h0 => by
    rw [tab_of (cl_in hj) (by rw [cl_ij ix iy hr]; exact hget j hj), if_neg (by omega)]
  refine Tbl.of (by simp [area_nat]) (fun m hm => ?_) h0 ⟨?_, fun q g hq => ?_, fun q g hq => .inl ?_⟩
  · obtain ⟨j, hj, rfl⟩ := List.mem_map.1 hm
    have hj := List.mem_range.1 hj
    have := h.ge j hj
    have := h.le hj
    omega
  · rw [hput tg hto (by rw [h.c0]; omega), h.c0]; rfl
  · obtain ⟨j, hj, rfl, h1, rfl⟩ := htab q g hq
    exact h.wk j hj h1
  · obtain ⟨j, hj, rfl, h1, rfl⟩ := htab q g hq
    have hst := ((h.wk j hj h1).toS h0).2
    rintro d w hs
    have hd := stepR_end hs
    obtain ⟨t, t1, t2, rfl, t4⟩ := hs
    have hin : inB ix iy rw rh ((cl ix iy rw j).1 + dX t.val, (cl ix iy rw j).2 + dY t.val) := inn_in t1
    obtain ⟨e1, e2⟩ := ij_cl hin
    obtain ⟨f1, f2⟩ := hf j hj t.val t.isLt h1 _ e1 ((lg_step (ix := ix) (iy := iy) (iw := rw) (ih := rh) t.isLt hst.2).2 ⟨t1, t2⟩).1 e2
    refine ⟨_, by rw [← e2]; exact hput _ e1 f1, ?_⟩
    have := co_pos t
    omega
end
end Go.Proofs.YtggaobcdogbjhaaGreatDoor
set_option linter.unusedSimpArgs false
namespace Go.Proofs.YtggaobcdogbjhaaGreatDoor
open Go.RowKit Go.Shelf
set_option linter.unusedVariables false
attribute [local go_sem] Oper.semAt_some
/-- What Costs keeps: the ground, the cell, the rectangle, the numbers. -/
structure Cx (w W : World) (wd ht N : Nat) (iv : Value) (fx fy ix iy : Int) (rw rh : Nat) (C : Nat → Int) : Prop where
  gb : GB W w.heap.size wd ht iv
  fr : Two W (w.heap.size + 1) fx fy
  rc : Four W (w.heap.size + 1 + 1) ix iy rw rh
  nm : Nmz W (w.heap.size + 1 + 1 + 1) N C
  bl : Below w.heap.size w W
section
variable {w W W' : World} {wd ht N : Nat} {iv : Value} {fx fy ix iy : Int} {rw rh : Nat} {C : Nat → Int}
theorem Cx.upto (h : Cx w W wd ht N iv fx fy ix iy rw rh C) (hb : Below W.heap.size W W') : Cx w W' wd ht N iv fx fy ix iy rw rh C := ⟨h.gb.upto hb, h.fr.kept hb, h.rc.kept hb, h.nm.upto hb, bt h.bl hb⟩
theorem Cx.set {j : Nat} (h : Cx w W wd ht N iv fx fy ix iy rw rh C) (hj : j < N) (x : Int) : Cx w (W.setCell ⟨w.heap.size + 1 + 1 + 1, j, none⟩ (.int .i64 x)) wd ht N iv fx fy ix iy rw rh (fun i => if i = j then x else C i) :=
  ⟨h.gb.kept (Turns.set (S := fun k => k = w.heap.size + 1 + 1 + 1) W (p := ⟨w.heap.size + 1 + 1 + 1, j, none⟩) rfl _) (by omega), h.fr.past (by omega), h.rc.past (by omega), h.nm.set hj x, h.bl.setCell (p := ⟨w.heap.size + 1 + 1 + 1, j, none⟩) (by simp; omega) _⟩
theorem Cx.congr {C' : Nat → Int} (h : Cx w W wd ht N iv fx fy ix iy rw rh C) (e : ∀ k, k < N → C k = C' k) : Cx w W wd ht N iv fx fy ix iy rw rh C' := ⟨h.gb, h.fr, h.rc, h.nm.congr e, h.bl⟩
end
theorem nmz_cts {w : World} {b N : Nat} {C : Nat → Int} (h : Nmz w b N C) (hN : N ≤ 16384) : Cts w (.slice (some ⟨b, 0, none⟩) N N) ((List.range N).map C) := by
  refine ⟨by simp, .inr ⟨b, N, _, by simp, Nat.zero_le _, h, by simp, by unfold maxLen; omega, by simp, ?_⟩⟩
  simp only [List.length_map, List.length_range, Nat.mul_one, List.map_map]
  rw [List.take_of_length_le (by simp)]
  rfl
theorem has_inB {ix iy iw ih x y : Int} (hi : 0 ≤ ix ∧ 0 ≤ iy ∧ ix + iw ≤ 128 ∧ iy + ih ≤ 128 ∧ 1 ≤ iw ∧ 1 ≤ ih) : has ix iy iw ih x y = true ↔ inB ix iy iw ih (x, y) := by
  rw [has_iff, may_iff]
  unfold inB
  simp only
  omega
/-- A cell's place in the list, as the text reckons it. -/
theorem idx_walk {ix iy x y : Int} {rw rh : Nat} (hi : 0 ≤ ix ∧ 0 ≤ iy ∧ ix + rw ≤ 128 ∧ iy + rh ≤ 128) (hq : inB ix iy rw rh (x, y)) : ∃ zy z z' : Int, IntKind.i64.wrap (y - iy) = zy ∧ IntKind.i64.wrap (zy * ((rw : Nat) : Int)) = z ∧ IntKind.i64.wrap (z + x) = z' ∧ IntKind.i64.wrap (z' - ix) = ((ij ix iy rw x y : Nat) : Int) := by
  obtain ⟨⟨h1, h2⟩, h3, h4⟩ := hq
  simp only at h1 h2 h3 h4
  have hm : 0 ≤ (y - iy) * (rw : Int) ∧ (y - iy) * (rw : Int) ≤ 128 * 128 := ⟨Int.mul_nonneg h3 (by omega), Int.mul_le_mul (by omega) (by omega) (by omega) (by omega)⟩
  refine ⟨y - iy, (y - iy) * rw, (y - iy) * rw + x, IntWalk.i64_in _ (by omega), IntWalk.i64_in _ (by omega), IntWalk.i64_in _ (by omega), ?_⟩
  rw [IntWalk.i64_in _ (by omega)]
  unfold ij
  omega
theorem run_alloc29 {ev : Operand → Value} {o : Oper} {w : World} (ho : o.op = .alloc 29) : (execOp ev o).run Tryz.prog w = .ok (.value (ptr w.heap.size)) (w.alloc (.cells #[.int .i64 0, .int .i64 0] 29)) := by
  unfold execOp
  rw [ho]
  go_simp
theorem run_put29 {ev : Operand → Value} {o : Oper} {w : World} {x y : Operand} {k : Nat} {a b p q : Int} (ho : o.op = .store 29 x y) (hx : ev x = ptr k) (hy : ev y = cel p q) (hF : Two w k a b) :
    (execOp ev o).run Tryz.prog w = .ok .skip ((w.setCell ⟨k, 0, none⟩ (.int .i64 p)).setCell ⟨k, 1, none⟩ (.int .i64 q)) := by
  obtain ⟨⟨c0, c1⟩, ⟨f0, f1⟩, -⟩ := hF
  unfold execOp
  rw [ho]
  simp only [hx, hy]
  go_simp
/-- What the document's Costs tells. -/
def DEnd (W H : Int) (tl : List Nat) (f : Int → Int → Option Int) (c s ix iy iw ih fx fy : Int) (w : World) (e : Ending) (w' : World) : Prop :=
  ∃ b n K, e = .returned (.slice (some ⟨b, 0, none⟩) n n) ∧ Below w.heap.size w w' ∧ (Cts w' (.slice (some ⟨b, 0, none⟩) n n) K ∧ w.heap.size ≤ b) ∧ Tbl W H tl f c s ix iy iw ih (fx, fy) K
set_option maxRecDepth 100000 in
set_option maxHeartbeats 16000000 in
theorem dcosts_any {w : World} {wd ht rw rh n0 : Nat} {tl : List Nat} {f : Int → Int → Option Int} {c s : Int} {a0 : Option Addr} {cap0 : Nat} {ix iy fx fy : Int} (hd : (1 ≤ wd ∧ wd ≤ 128) ∧ 1 ≤ ht ∧ ht ≤ 128)
    (hG : Rw 4 1 cB w (.slice a0 n0 cap0) ((List.range (wd * ht)).map (fun k => stB wd ht tl f c s ((k % wd : Nat) : Int) ((k / wd : Nat) : Int)))) (hr : 0 ≤ ix ∧ 0 ≤ iy ∧ ix + rw ≤ wd ∧ iy + rh ≤ ht) (hr1 : 1 ≤ rw ∧ 1 ≤ rh) (hN7 : rw * rh ≤ 1000) (hf : inB ix iy rw rh (fx, fy)) :
    Calls Tryz.prog 19 #[gdv wd ht (.slice a0 n0 cap0), cel fx fy, rct ix iy rw rh] w (DEnd wd ht tl f c s ix iy rw rh fx fy w) := by
  obtain ⟨N, hN⟩ : ∃ N, N = rw * rh := ⟨_, rfl⟩
  have hN1 : N ≤ 1000 := by omega
  obtain ⟨htg, hcl⟩ := ij_cl hf
  obtain ⟨tg, htgd⟩ : ∃ tg, ij ix iy rw fx fy = tg := ⟨_, rfl⟩
  have hi8 : 0 ≤ ix ∧ 0 ≤ iy ∧ ix + (rw : Int) ≤ 128 ∧ iy + (rh : Int) ≤ 128 := by omega
  obtain ⟨zy, z, z', hz0, hz1, hz2, hz3⟩ := idx_walk hi8 hf
  simp only at htg hcl
  rw [htgd] at hz3 htg hcl
  have htN : tg < N := by omega
  have hhas : ∀ x y, has ix iy rw rh x y = true ↔ inB ix iy rw rh (x, y) := fun x y => has_inB (by omega)
  have hmul : IntKind.i64.wrap ((rw : Int) * (rh : Int)) = (N : Nat) := by
    rw [show (rw : Int) * (rh : Int) = ((rw * rh : Nat) : Int) by push_cast; rfl, ← hN]
    exact wrap_nat (by omega)
  have hmk := make_nums N (by omega)
  have HSt : Hid (∀ wx, Below w.heap.size w wx → ∀ x y (d : Int), Calls Tryz.prog 42 #[gdv wd ht (.slice a0 n0 cap0), cel x y, .int .i64 d] wx fun e w' => e = .returned (.tuple #[cel (if lg (stB wd ht tl f c s) x y d = true then sX x y d else 0) (if lg (stB wd ht tl f c s) x y d = true then sY x y d else 0), .bool (lg (stB wd ht tl f c s) x y d)]) ∧ Below wx.heap.size wx w') := hide fun wx hx x y d => dst_is hd rfl hG d wx hx x y
  have HGt : Hid (∀ wx, Below w.heap.size w wx → Calls Tryz.prog 40 #[gdv wd ht (.slice a0 n0 cap0), cel fx fy] wx fun e w' => e = .returned (.bool (stB wd ht tl f c s fx fy)) ∧ Below wx.heap.size wx w') := hide fun wx hx => by
    have := gstands_any fx fy (show Gd wx wd ht (wd * ht) _ _ from hG.upto hx) ⟨hd.1.2, hd.2.2⟩ rfl
    rwa [gS_st hd] at this
  have HHt : Hid (has ix iy rw rh fx fy = true) := hide ((hhas _ _).2 hf)
  obtain ⟨X, hX⟩ : ∃ X, (((w.alloc (.cells #[.int .i64 (wd : Nat), .int .i64 (ht : Nat), .slice a0 n0 cap0] 46)).alloc (.cells #[.int .i64 fx, .int .i64 fy] 29)).alloc (.cells #[.int .i64 ix, .int .i64 iy, .int .i64 (rw : Nat), .int .i64 (rh : Nat)] 31)).alloc (.cells (Array.replicate N (.int .i64 0)) 3) = X := ⟨_, rfl⟩
  have X0 : Cx w X wd ht N (.slice a0 n0 cap0) fx fy ix iy rw rh (fun _ => 0) := by
    rw [← hX]
    refine ⟨((((GB.new w wd ht _).upto (box1 _ _)).upto (box1 _ _)).upto (box1 _ _)), ?_, ?_, ?_, bt (box2 _ _ _) (box2 _ _ _)⟩
    · exact ((Two.newAt (by simp)).alloc).alloc
    · exact (Four.newAt _ _ _ _ _ (by simp)).kept (box1 _ _)
    · have := heap_alloc_new (((w.alloc (.cells #[.int .i64 (wd : Nat), .int .i64 (ht : Nat), .slice a0 n0 cap0] 46)).alloc (.cells #[.int .i64 fx, .int .i64 fy] 29)).alloc (.cells #[.int .i64 ix, .int .i64 iy, .int .i64 (rw : Nat), .int .i64 (rh : Nat)] 31)) (.cells (Array.replicate N (.int .i64 0)) 3)
      simp only [World.size_alloc] at this
      unfold Nmz
      rw [this, show (List.range N).map (fun _ => Value.int .i64 0) = List.replicate N (.int .i64 0) by rw [List.map_const', List.length_range], List.toArray_replicate]
  have HX0 := hide X0
  have HX := hide hX
  have HN := hide hN
  have Hhas := hide hhas
  have Hcl := hide hcl
  have Hhi := hide (And.intro hi8 (And.intro hr hr1))
  have hNI : ((N : Nat) : Int) ≤ 1000 := by omega
  have hrw0 : ¬ rw = 0 := by omega
  have htI : (0 : Int) ≤ (tg : Nat) ∧ ((tg : Nat) : Int) < (N : Nat) := by omega
  have Hhf := hide hf
  clear hX X0 hN hhas hf hG hcl htgd htg hr hr1 hi8 hN7 hd
  go_enter Tryz.func19, Tryz.ntmps19
  go_wp2_with fail
  rw [HX.out]
  clear hmk hmul
  go_loopw [8] (fun d wr => ∃ i : Nat, d = .int .i64 (i : Nat) ∧ i ≤ N ∧ Cx w wr wd ht N (.slice a0 n0 cap0) fx fy ix iy rw rh (fun k => if k < i then -1 else 0)) (fun d _ => N - (intOf d).toNat)
  case atStart => exact ⟨0, rfl, Nat.zero_le _, HX0.out.congr (fun k _ => by simp)⟩
  case round =>
    obtain ⟨i, rfl, hi, hC⟩ := hrel
    clear HX0 HX
    by_cases hlt : i < N
    · have hli : ((i : Nat) : Int) < (N : Nat) := by omega
      have hiI : (0 : Int) ≤ (i : Nat) ∧ ((i : Nat) : Int) ≤ 1000 := by omega
      have cu := hC.nm.c hlt
      have fu := hC.nm.fz i
      have HC1 := hide ((hC.set hlt (-1)).congr (C' := fun k => if k < i + 1 then -1 else 0) (fun k _ => by
        by_cases e : k = i
        · subst e; simp
        · simp only [if_neg e]
          by_cases e2 : k < i
          · rw [if_pos e2, if_pos (by omega)]
          · rw [if_neg e2, if_neg (by omega)]))
      clear hC
      go_wp2_with fail
      go_roundw
      case rel => exact ⟨i + 1, by go_num, by omega, HC1.out⟩
      case measure => simp [intOf]; omega
    · have hie : N = i := by omega
      subst hie
      have hli : ¬ ((N : Nat) : Int) < (N : Nat) := by omega
      have hC2 : Cx w wr wd ht N (.slice a0 n0 cap0) fx fy ix iy rw rh (fun _ => -1) := hC.congr (fun k hk => by rw [if_pos hk])
      have HC2 := hide hC2
      obtain ⟨⟨g0, g1⟩, g2⟩ := hC2.gb.c
      obtain ⟨⟨t0, t1⟩, -, -⟩ := hC2.fr
      clear hC hC2
      go_wp2_with fail
      refine (HGt.out _ HC2.out.bl).mono ?_
      rintro e w2 ⟨rfl, hb2⟩
      have HC3 := hide (HC2.out.upto hb2)
      clear hb2 g0 g1 g2 t0 t1 HC2 HGt
      cases hst : stB wd ht tl f c s fx fy
      · have HE : Hid (DEnd wd ht tl f c s ix iy rw rh fx fy w (.returned (.slice (some ⟨w.heap.size + 1 + 1 + 1, 0, none⟩) N N)) w2) := hide (by
          refine ⟨_, _, (List.range N).map (fun _ => -1), rfl, HC3.out.bl, ⟨nmz_cts HC3.out.nm (by omega), by omega⟩, ?_⟩
          have := Tbl.none (W := wd) (H := ht) (tl := tl) (f := f) (c := c) (s := s) (ix := ix) (iy := iy) (iw := rw) (ih := rh) (s0 := (fx, fy)) (N := N) (by rw [area_nat]; exact HN.out) (fun q => by have := q.2; simp only at this; rw [hst] at this; cases this)
          rwa [show (List.range N).map (fun _ => (-1 : Int)) = List.replicate N (-1) by rw [List.map_const', List.length_range]])
        go_wp2_with fail
        refine bodyPost_ret (v := .slice (some ⟨w.heap.size + 1 + 1 + 1, 0, none⟩) N N) (by simp [results, Tryz.results19, go_sem]) rfl ?_
        exact HE.out
      have Hst := hide hst
      clear hst
      obtain ⟨⟨t2, t3⟩, -, -⟩ := HC3.out.fr
      obtain ⟨⟨r0, r1, r2, r3⟩, -, -⟩ := HC3.out.rc
      go_wp2_with fail
      refine (refhas_is _ HHt.out).mono ?_
      rintro e w3 ⟨rfl, hb3⟩
      have HC4 := hide (HC3.out.upto hb3)
      obtain ⟨⟨t4, t5⟩, -, -⟩ := HC4.out.fr
      obtain ⟨⟨s0, s1, s2, s3⟩, -, -⟩ := HC4.out.rc
      have cu := HC4.out.nm.c htN
      have fu := HC4.out.nm.fz tg
      have HC5 := hide (HC4.out.set htN 0)
      have HBf : Hid (Bf wd ht tl f c s ix iy rw rh tg (fun j => if j = tg then 0 else -1)) := hide (Bf.start (by rw [← HN.out]; exact htN))
      clear hb3 t2 t3 r0 r1 r2 r3 HC3 HHt
      go_wp2_with fail
      clear t4 t5 s0 s1 s2 s3 cu fu HC4 hz0 hz1 hz2 hz3
      obtain ⟨w4, hw4⟩ : ∃ w4, w3.setCell ⟨w.heap.size + 1 + 1 + 1, tg, none⟩ (.int .i64 0) = w4 := ⟨_, rfl⟩
      rw [hw4] at HC5
      rw [hw4]
      clear hw4
      go_loopw [9] (fun tb wr => ∃ (C : Nat → Int) (b : Bool), tb = .bool b ∧ Cx w wr wd ht N (.slice a0 n0 cap0) fx fy ix iy rw rh C ∧ Bf wd ht tl f c s ix iy rw rh tg C ∧ (b = false → ∀ i', i' < N → ∀ d, d < 8 → Fn wd ht tl f c s ix iy rw rh C i' d)) (fun tb wr => 2 * sW wr (w.heap.size + 1 + 1 + 1) + flag tb)
      case atStart => exact ⟨_, true, rfl, HC5.out, HBf.out, fun e => by cases e⟩
      case round =>
        obtain ⟨C0, b0, rfl, hC, hBf, hFn⟩ := hrel
        clear HC5 HBf
        rename World => wa
        cases b0
        · have HE : Hid (DEnd wd ht tl f c s ix iy rw rh fx fy w (.returned (.slice (some ⟨w.heap.size + 1 + 1 + 1, 0, none⟩) N N)) wa) := hide (by
            refine ⟨_, _, (List.range N).map C0, rfl, hC.bl, ⟨nmz_cts hC.nm (by omega), by omega⟩, ?_⟩
            have h9 := hBf.tbl (by rw [← HN.out]; exact hFn rfl) (by rw [← HN.out]; exact htN) (by rw [Hcl.out]; exact ⟨(Hhas.out _ _).2 Hhf.out, Hst.out⟩) (by rw [← HN.out]; omega)
            rw [Hcl.out, ← HN.out] at h9
            exact h9)
          clear hC hBf hFn
          go_wp2_with fail
          refine bodyPost_ret (v := .slice (some ⟨w.heap.size + 1 + 1 + 1, 0, none⟩) N N) (by simp [results, Tryz.results19, go_sem]) rfl ?_
          exact HE.out
        · obtain ⟨s0, hs0⟩ : ∃ s0, sC N C0 = s0 := ⟨_, rfl⟩
          have Hs0 : Hid (sW wa (w.heap.size + 1 + 1 + 1) = s0) := hide ((sW_of hC.nm).trans hs0)
          have HC := hide hC
          have HBf := hide hBf
          have Hsc := hide hs0
          clear hC hBf hFn hs0
          go_wp2_with fail
          go_loopw [9, 10] (fun tb d wr => ∃ (k : Nat) (C : Nat → Int) (b : Bool), tb = .bool b ∧ d = .int .i64 (k : Nat) ∧ k ≤ N ∧ Cx w wr wd ht N (.slice a0 n0 cap0) fx fy ix iy rw rh C ∧ Bf wd ht tl f c s ix iy rw rh tg C ∧ sC N C ≤ s0 ∧ (b = true → sC N C < s0) ∧ (b = false → ∀ i', i' < k → ∀ d, d < 8 → Fn wd ht tl f c s ix iy rw rh C i' d)) (fun _ d _ => N - (intOf d).toNat)
          case atStart => exact ⟨0, C0, false, rfl, rfl, Nat.zero_le _, HC.out, HBf.out, by rw [Hsc.out]; exact Nat.le_refl _, (fun e => by cases e), fun _ i' hi' => by omega⟩
          case round =>
            obtain ⟨k, C1, b1, rfl, rfl, hk, hC, hBf, hle, hlts, hFn⟩ := hrel
            clear HC HBf
            rename World => wb
            by_cases hkl : k < N
            · have hkI : ((k : Nat) : Int) < (N : Nat) := by omega
              have hk0 : (0 : Int) ≤ (k : Nat) ∧ ((k : Nat) : Int) ≤ 1000 := by omega
              obtain ⟨rx, hrx⟩ : ∃ rx : Int, ((k % rw : Nat) : Int) = rx := ⟨_, rfl⟩
              obtain ⟨qy, hqy⟩ : ∃ qy : Int, ((k / rw : Nat) : Int) = qy := ⟨_, rfl⟩
              have hrem : (k : Int).tmod (rw : Int) = rx := hrx
              have hrem2 : (k : Int) % (rw : Int) = rx := by rw [← hrx]; exact (Int.natCast_emod k rw).symm
              have hquo : IntKind.i64.wrap ((k : Int) / (rw : Int)) = qy := by
                rw [← hqy, ← Int.natCast_ediv]
                exact wrap_nat (Nat.le_trans (Nat.div_le_self k rw) (by omega))
              have hckl : cl ix iy rw k = (ix + rx, iy + qy) := by unfold cl; rw [hrx, hqy]
              have hkin : inB ix iy rw rh (ix + rx, iy + qy) := by rw [← hckl]; exact cl_in (by rw [← HN.out]; exact hkl)
              obtain ⟨kx, hkx⟩ : ∃ kx, ix + rx = kx := ⟨_, rfl⟩
              obtain ⟨ky, hky⟩ : ∃ ky, iy + qy = ky := ⟨_, rfl⟩
              rw [hkx, hky] at hckl hkin
              have hkb : (0 ≤ kx ∧ kx ≤ 128) ∧ 0 ≤ ky ∧ ky ≤ 128 := by have := Hhi.out; obtain ⟨⟨a1, a2⟩, a3, a4⟩ := hkin; simp only at a1 a2 a3 a4; omega
              have hax : IntKind.i64.wrap (ix + rx) = kx := by rw [hkx]; exact IntWalk.i64_in _ (by omega)
              have hay : IntKind.i64.wrap (iy + qy) = ky := by rw [hky]; exact IntWalk.i64_in _ (by omega)
              have HC := hide hC
              have HBf := hide hBf
              have Hle := hide hle
              have Hlts := hide hlts
              have HFn := hide hFn
              have Hck := hide (And.intro hckl hkin)
              have HSx : Hid (∀ wx C, Cx w wx wd ht N (.slice a0 n0 cap0) fx fy ix iy rw rh C → (fun wx : World => (wx.cell? ⟨w.heap.size + 1 + 1, 0, none⟩ = some (.int .i64 ix) ∧ wx.cell? ⟨w.heap.size + 1 + 1, 1, none⟩ = some (.int .i64 iy)) ∧ wx.cell? ⟨w.heap.size + 1 + 1, 2, none⟩ = some (.int .i64 (rw : Nat))) wx) := hide fun wx C h => ⟨⟨h.rc.1.1, h.rc.1.2.1⟩, h.rc.1.2.2.1⟩
              have HS : (fun wx : World => (wx.cell? ⟨w.heap.size + 1 + 1, 0, none⟩ = some (.int .i64 ix) ∧ wx.cell? ⟨w.heap.size + 1 + 1, 1, none⟩ = some (.int .i64 iy)) ∧ wx.cell? ⟨w.heap.size + 1 + 1, 2, none⟩ = some (.int .i64 (rw : Nat))) wb.drew := HSx.out _ _ (hC.upto (Below.refl _ wb).drew)
              clear hC hBf hle hlts hFn hrx hqy hckl hkin hkx hky hkb
              go_wp2_with fail
              refine wp_only ?_
              refine wp_region_z (fun wx : World => (wx.cell? ⟨w.heap.size + 1 + 1, 0, none⟩ = some (.int .i64 ix) ∧ wx.cell? ⟨w.heap.size + 1 + 1, 1, none⟩ = some (.int .i64 iy)) ∧ wx.cell? ⟨w.heap.size + 1 + 1, 2, none⟩ = some (.int .i64 (rw : Nat))) [] (by kernel_rfl) ?_
              refine anyZ_take 0 18 (v := .pointer (some ⟨w.heap.size + 1 + 1, 0, none⟩)) rfl (by kernel_rfl) (fun _ _ _ h => h.elim) (Or.inl ⟨by rfl, fun wx hx => by obtain ⟨⟨q0, q1⟩, q2⟩ := hx; clear HS; go_simp⟩) HS ?_
              try simp only [Act.put, List.getElem_toArray, List.getElem_cons_zero, List.getElem_cons_succ, List.setIfInBounds_toArray, List.set_cons_zero, List.set_cons_succ]
              refine anyZ_take 1 18 (v := .pointer (some ⟨w.heap.size + 1 + 1, 0, none⟩)) rfl (by kernel_rfl) (fun _ _ _ h => h.elim) (Or.inl ⟨by rfl, fun wx hx => by obtain ⟨⟨q0, q1⟩, q2⟩ := hx; clear HS; go_simp⟩) HS ?_
              try simp only [Act.put, List.getElem_toArray, List.getElem_cons_zero, List.getElem_cons_succ, List.setIfInBounds_toArray, List.set_cons_zero, List.set_cons_succ]
              refine anyZ_take 2 18 (v := .int .i64 ix) rfl (by kernel_rfl) (fun _ _ _ h => h.elim) (Or.inl ⟨by rfl, fun wx hx => by obtain ⟨⟨q0, q1⟩, q2⟩ := hx; clear HS; go_simp⟩) HS ?_
              try simp only [Act.put, List.getElem_toArray, List.getElem_cons_zero, List.getElem_cons_succ, List.setIfInBounds_toArray, List.set_cons_zero, List.set_cons_succ]
              refine anyZ_take 3 18 (v := .int .i64 (k : Nat)) rfl (by kernel_rfl) (fun _ _ _ h => h.elim) (Or.inl ⟨by rfl, fun wx hx => by obtain ⟨⟨q0, q1⟩, q2⟩ := hx; clear HS; go_simp⟩) HS ?_
              try simp only [Act.put, List.getElem_toArray, List.getElem_cons_zero, List.getElem_cons_succ, List.setIfInBounds_toArray, List.set_cons_zero, List.set_cons_succ]
              refine anyZ_take 4 18 (v := .pointer (some ⟨w.heap.size + 1 + 1, 2, none⟩)) rfl (by kernel_rfl) (fun _ _ _ h => h.elim) (Or.inl ⟨by rfl, fun wx hx => by obtain ⟨⟨q0, q1⟩, q2⟩ := hx; clear HS; go_simp⟩) HS ?_
              try simp only [Act.put, List.getElem_toArray, List.getElem_cons_zero, List.getElem_cons_succ, List.setIfInBounds_toArray, List.set_cons_zero, List.set_cons_succ]
              refine anyZ_take 5 18 (v := .int .i64 (rw : Nat)) rfl (by kernel_rfl) (fun _ _ _ h => h.elim) (Or.inl ⟨by rfl, fun wx hx => by obtain ⟨⟨q0, q1⟩, q2⟩ := hx; clear HS; go_simp⟩) HS ?_
              try simp only [Act.put, List.getElem_toArray, List.getElem_cons_zero, List.getElem_cons_succ, List.setIfInBounds_toArray, List.set_cons_zero, List.set_cons_succ]
              refine anyZ_take 6 18 (v := .int .i64 rx) rfl (by kernel_rfl) (fun _ _ _ h => h.elim) (Or.inl ⟨by rfl, fun wx hx => by obtain ⟨⟨q0, q1⟩, q2⟩ := hx; clear HS; go_simp⟩) HS ?_
              try simp only [Act.put, List.getElem_toArray, List.getElem_cons_zero, List.getElem_cons_succ, List.setIfInBounds_toArray, List.set_cons_zero, List.set_cons_succ]
              refine anyZ_take 7 18 (v := .int .i64 kx) rfl (by kernel_rfl) (fun _ _ _ h => h.elim) (Or.inl ⟨by rfl, fun wx hx => by obtain ⟨⟨q0, q1⟩, q2⟩ := hx; clear HS; go_simp⟩) HS ?_
              try simp only [Act.put, List.getElem_toArray, List.getElem_cons_zero, List.getElem_cons_succ, List.setIfInBounds_toArray, List.set_cons_zero, List.set_cons_succ]
              refine anyZ_take 8 18 (v := .pointer (some ⟨w.heap.size + 1 + 1, 0, none⟩)) rfl (by kernel_rfl) (fun _ _ _ h => h.elim) (Or.inl ⟨by rfl, fun wx hx => by obtain ⟨⟨q0, q1⟩, q2⟩ := hx; clear HS; go_simp⟩) HS ?_
              try simp only [Act.put, List.getElem_toArray, List.getElem_cons_zero, List.getElem_cons_succ, List.setIfInBounds_toArray, List.set_cons_zero, List.set_cons_succ]
              refine anyZ_take 9 18 (v := .pointer (some ⟨w.heap.size + 1 + 1, 1, none⟩)) rfl (by kernel_rfl) (fun _ _ _ h => h.elim) (Or.inl ⟨by rfl, fun wx hx => by obtain ⟨⟨q0, q1⟩, q2⟩ := hx; clear HS; go_simp⟩) HS ?_
              try simp only [Act.put, List.getElem_toArray, List.getElem_cons_zero, List.getElem_cons_succ, List.setIfInBounds_toArray, List.set_cons_zero, List.set_cons_succ]
              refine anyZ_take 10 18 (v := .int .i64 iy) rfl (by kernel_rfl) (fun _ _ _ h => h.elim) (Or.inl ⟨by rfl, fun wx hx => by obtain ⟨⟨q0, q1⟩, q2⟩ := hx; clear HS; go_simp⟩) HS ?_
              try simp only [Act.put, List.getElem_toArray, List.getElem_cons_zero, List.getElem_cons_succ, List.setIfInBounds_toArray, List.set_cons_zero, List.set_cons_succ]
              refine anyZ_take 11 18 (v := .int .i64 (k : Nat)) rfl (by kernel_rfl) (fun _ _ _ h => h.elim) (Or.inl ⟨by rfl, fun wx hx => by obtain ⟨⟨q0, q1⟩, q2⟩ := hx; clear HS; go_simp⟩) HS ?_
              try simp only [Act.put, List.getElem_toArray, List.getElem_cons_zero, List.getElem_cons_succ, List.setIfInBounds_toArray, List.set_cons_zero, List.set_cons_succ]
              refine anyZ_take 12 18 (v := .pointer (some ⟨w.heap.size + 1 + 1, 2, none⟩)) rfl (by kernel_rfl) (fun _ _ _ h => h.elim) (Or.inl ⟨by rfl, fun wx hx => by obtain ⟨⟨q0, q1⟩, q2⟩ := hx; clear HS; go_simp⟩) HS ?_
              try simp only [Act.put, List.getElem_toArray, List.getElem_cons_zero, List.getElem_cons_succ, List.setIfInBounds_toArray, List.set_cons_zero, List.set_cons_succ]
              refine anyZ_take 13 18 (v := .int .i64 (rw : Nat)) rfl (by kernel_rfl) (fun _ _ _ h => h.elim) (Or.inl ⟨by rfl, fun wx hx => by obtain ⟨⟨q0, q1⟩, q2⟩ := hx; clear HS; go_simp⟩) HS ?_
              try simp only [Act.put, List.getElem_toArray, List.getElem_cons_zero, List.getElem_cons_succ, List.setIfInBounds_toArray, List.set_cons_zero, List.set_cons_succ]
              refine anyZ_take 14 18 (v := .int .i64 qy) rfl (by kernel_rfl) (fun _ _ _ h => h.elim) (Or.inl ⟨by rfl, fun wx hx => by obtain ⟨⟨q0, q1⟩, q2⟩ := hx; clear HS; go_simp⟩) HS ?_
              try simp only [Act.put, List.getElem_toArray, List.getElem_cons_zero, List.getElem_cons_succ, List.setIfInBounds_toArray, List.set_cons_zero, List.set_cons_succ]
              refine anyZ_take 15 18 (v := .int .i64 ky) rfl (by kernel_rfl) (fun _ _ _ h => h.elim) (Or.inl ⟨by rfl, fun wx hx => by obtain ⟨⟨q0, q1⟩, q2⟩ := hx; clear HS; go_simp⟩) HS ?_
              try simp only [Act.put, List.getElem_toArray, List.getElem_cons_zero, List.getElem_cons_succ, List.setIfInBounds_toArray, List.set_cons_zero, List.set_cons_succ]
              refine anyZ_take 16 18 (v := cel kx ky) rfl (by kernel_rfl) (fun _ _ _ h => h.elim) (Or.inl ⟨by rfl, fun wx hx => by obtain ⟨⟨q0, q1⟩, q2⟩ := hx; clear HS; go_simp⟩) HS ?_
              try simp only [Act.put, List.getElem_toArray, List.getElem_cons_zero, List.getElem_cons_succ, List.setIfInBounds_toArray, List.set_cons_zero, List.set_cons_succ]
              refine anyZ_ready (rs := [17]) (by kernel_rfl) (by simp) ?_
              have BA : Below wb.heap.size wb (wb.drew.alloc (.cells #[.int .i64 0, .int .i64 0] 29)) := ((Below.refl _ wb).drew).trans ((box1 wb.drew _).mono (Nat.le_refl _))
              have FA : Two (wb.drew.alloc (.cells #[.int .i64 0, .int .i64 0] 29)) wb.heap.size 0 0 := Two.newAt rfl
              refine readyZ.cons rfl rfl (run_alloc29 (by rfl)) (fun _ => HSx.out _ _ (HC.out.upto BA)) ?_ readyZ.nil
              try simp only [Act.put, List.getElem_toArray, List.getElem_cons_zero, List.getElem_cons_succ, List.setIfInBounds_toArray, List.set_cons_zero, List.set_cons_succ]
              try rw [show wb.drew.heap.size = wb.heap.size from rfl]
              obtain ⟨wc, hwc⟩ : ∃ wc, wb.drew.alloc (.cells #[.int .i64 0, .int .i64 0] 29) = wc := ⟨_, rfl⟩
              rw [hwc] at BA FA ⊢
              refine anyZ_ready (rs := [18]) (by kernel_rfl) (by simp) ?_
              have TB : Two ((wc.setCell ⟨wb.heap.size, 0, none⟩ (.int .i64 kx)).setCell ⟨wb.heap.size, 1, none⟩ (.int .i64 ky)) wb.heap.size kx ky := FA.set
              have BB : Below wb.heap.size wb ((wc.setCell ⟨wb.heap.size, 0, none⟩ (.int .i64 kx)).setCell ⟨wb.heap.size, 1, none⟩ (.int .i64 ky)) := (BA.setCell (p := ⟨wb.heap.size, 0, none⟩) (by simp) _).setCell (p := ⟨wb.heap.size, 1, none⟩) (by simp) _
              refine readyZ.skip rfl rfl (run_put29 (by rfl) (by rfl) (by rfl) FA) (fun _ => HSx.out _ _ (HC.out.upto BB)) ?_ readyZ.nil
              try simp only [Act.put, List.getElem_toArray, List.getElem_cons_zero, List.getElem_cons_succ, List.setIfInBounds_toArray, List.set_cons_zero, List.set_cons_succ]
              refine anyZ_done (by kernel_rfl) ?_ _
              dsimp only [Only, Exit.then]
              have HC1 := hide (HC.out.upto BB)
              have HT1 := hide TB
              have Hbc : Hid (w.heap.size + 1 + 1 + 1 < wb.heap.size) := hide HC.out.nm.lt
              obtain ⟨Bc, hBc⟩ : ∃ Bc, wb.heap.size = Bc := ⟨_, rfl⟩
              obtain ⟨wn, hwn⟩ : ∃ wn, (wc.setCell ⟨wb.heap.size, 0, none⟩ (.int .i64 kx)).setCell ⟨wb.heap.size, 1, none⟩ (.int .i64 ky) = wn := ⟨_, rfl⟩
              rw [hwn] at HC1 HT1
              try rw [hwn]
              rw [hBc] at HT1 Hbc
              try rw [hBc] at hwn
              try rw [hwn]
              try rw [hBc]
              clear BB BA TB FA hBc hwn hwc HC HS HSx hrem hrem2 hquo hax hay
              go_wp2_with fail
              go_loopw [9, 12] (fun tb d wr => ∃ (dd : Nat) (C : Nat → Int) (b : Bool), tb = .bool b ∧ d = .int .i64 (dd : Nat) ∧ dd ≤ 8 ∧ Cx w wr wd ht N (.slice a0 n0 cap0) fx fy ix iy rw rh C ∧ Bf wd ht tl f c s ix iy rw rh tg C ∧ sC N C ≤ s0 ∧ (b = true → sC N C < s0) ∧ (b = false → (∀ i', i' < k → ∀ d, d < 8 → Fn wd ht tl f c s ix iy rw rh C i' d) ∧ ∀ d, d < dd → Fn wd ht tl f c s ix iy rw rh C k d) ∧ Two wr Bc kx ky) (fun _ d _ => 8 - (intOf d).toNat)
              case atStart => exact ⟨0, C1, b1, rfl, rfl, by omega, HC1.out, HBf.out, Hle.out, Hlts.out, fun e => ⟨HFn.out e, fun d hd => by omega⟩, HT1.out⟩
              case round =>
                obtain ⟨dd, C, bb, rfl, rfl, hdd, hC, hBf, hle, hlts, hFn, hT⟩ := hrel
                clear HC1 HT1 HBf Hle Hlts HFn
                obtain ⟨ck, hck⟩ : ∃ ck, C k = ck := ⟨_, rfl⟩
                have cu := hC.nm.c hkl
                rw [hck] at cu
                have hckb : ck ≤ 14000 := by rw [← hck]; have := hBf.le (by rw [← HN.out]; exact hkl); have := HN.out; omega
                have HC := hide hC
                have HBf := hide hBf
                have Hle := hide hle
                have Hlts := hide hlts
                have HFn := hide hFn
                have HT := hide hT
                have Hckk := hide hck
                clear hC hBf hle hlts hFn hT hck
                by_cases hc0 : 0 ≤ ck
                · by_cases hd8 : dd < 8
                  · have hdI : ((dd : Nat) : Int) < 8 := by omega
                    obtain ⟨r, hr⟩ : ∃ r, lg (stB wd ht tl f c s) kx ky (dd : Nat) = r := ⟨_, rfl⟩
                    obtain ⟨ox, hox⟩ : ∃ ox, (if r = true then sX kx ky (dd : Nat) else 0) = ox := ⟨_, rfl⟩
                    obtain ⟨oy, hoy⟩ : ∃ oy, (if r = true then sY kx ky (dd : Nat) else 0) = oy := ⟨_, rfl⟩
                    have HSp : Hid (∀ wx, Below w.heap.size w wx → Calls Tryz.prog 42 #[gdv wd ht (.slice a0 n0 cap0), cel kx ky, .int .i64 (dd : Nat)] wx fun e' w' => e' = .returned (.tuple #[cel ox oy, .bool r]) ∧ Below wx.heap.size wx w') := hide fun wx hx => by
                      have := HSt.out wx hx kx ky (dd : Nat)
                      rw [hr, hox, hoy] at this
                      exact this
                    have Hr := hide hr
                    have Hox := hide hox
                    have Hoy := hide hoy
                    obtain ⟨⟨g0, g1⟩, g2⟩ := HC.out.gb.c
                    obtain ⟨⟨y0, y1⟩, -, -⟩ := HT.out
                    clear hr hox hoy
                    go_wp2_with fail
                    refine (HSp.out _ HC.out.bl).mono ?_
                    rintro e' w5 ⟨rfl, hb5⟩
                    have B5 := bt hb5 (box1 w5 (.cells #[.int .i64 ox, .int .i64 oy] 29))
                    have HC5 := hide (HC.out.upto B5)
                    have HT5 := hide (HT.out.kept B5)
                    have b9 : Two (w5.alloc (.cells #[.int .i64 ox, .int .i64 oy] 29)) w5.heap.size ox oy := Two.newAt rfl
                    clear hb5 B5 HSp g0 g1 g2 y0 y1 cu HC HT
                    cases r
                    · clear b9
                      have HF2 : Hid (bb = false → (∀ i', i' < k → ∀ d, d < 8 → Fn wd ht tl f c s ix iy rw rh C i' d) ∧ ∀ d, d < dd + 1 → Fn wd ht tl f c s ix iy rw rh C k d) := hide fun e => ⟨(HFn.out e).1, fun d hd => by
                          by_cases e2 : d = dd
                          · subst e2
                            intro _ k' _ hL
                            rw [Hck.out.1] at hL
                            rw [Hr.out] at hL
                            cases hL
                          · exact (HFn.out e).2 d (by omega)⟩
                      go_wp2_with fail
                      go_roundw
                      case rel => exact ⟨dd + 1, C, bb, rfl, by go_num, by omega, HC5.out, HBf.out, Hle.out, Hlts.out, HF2.out, HT5.out⟩
                      case measure => simp [intOf]; omega
                    · have hsk : stB wd ht tl f c s kx ky = true := by
                        have h9 := (HBf.out.wk k (by rw [← HN.out]; exact hkl) (by rw [Hckk.out]; exact hc0)).toS (by rw [Hcl.out]; exact ⟨(Hhas.out _ _).2 Hhf.out, Hst.out⟩)
                        rw [Hck.out.1] at h9
                        exact h9.2.2
                      have hsB : sB kx ky (dd : Nat) = true := by have := Hr.out; unfold lg at this; rw [Bool.and_eq_true] at this; exact this.1
                      have ex : kx + dX dd = ox := by rw [← Hox.out, if_pos rfl, sX_yes hsB]; rfl
                      have ey : ky + dY dd = oy := by rw [← Hoy.out, if_pos rfl, sY_yes hsB]; rfl
                      obtain ⟨hh, hhh⟩ : ∃ hh, has ix iy rw rh ox oy = hh := ⟨_, rfl⟩
                      have HHj := hide hhh
                      obtain ⟨⟨o0, o1⟩, -, -⟩ := id b9
                      obtain ⟨⟨r0, r1, r2, r3⟩, -, -⟩ := HC5.out.rc
                      have Hb9 := hide b9
                      have Hexy := hide (And.intro ex (And.intro ey hsk))
                      clear hhh b9 ex ey hsk hsB
                      go_wp2_with fail
                      refine (refhas_is _ HHj.out).mono ?_
                      rintro e' w6 ⟨rfl, hb6⟩
                      have HC6 := hide (HC5.out.upto hb6)
                      have HT6 := hide (HT5.out.kept hb6)
                      have Hb6 := hide (Hb9.out.kept hb6)
                      clear hb6 o0 o1 r0 r1 r2 r3 HC5 HT5 Hb9
                      cases hh
                      · have HF2 : Hid (bb = false → (∀ i', i' < k → ∀ d, d < 8 → Fn wd ht tl f c s ix iy rw rh C i' d) ∧ ∀ d, d < dd + 1 → Fn wd ht tl f c s ix iy rw rh C k d) := hide fun e => ⟨(HFn.out e).1, fun d hd => by
                            by_cases e2 : d = dd
                            · subst e2
                              intro _ k' hk' hL hn
                              have h9 := cl_in (ix := ix) (iy := iy) (rw := rw) (rh := rh) (j := k') hk'
                              rw [hn, Hck.out.1, Hexy.out.1, Hexy.out.2.1] at h9
                              have h8 := (Hhas.out _ _).2 h9
                              rw [HHj.out] at h8
                              cases h8
                            · exact (HFn.out e).2 d (by omega)⟩
                        go_wp2_with fail
                        go_roundw
                        case rel => exact ⟨dd + 1, C, bb, rfl, by go_num, by omega, HC6.out, HBf.out, Hle.out, Hlts.out, HF2.out, HT6.out⟩
                        case measure => simp [intOf]; omega
                      · have hoin : inB ix iy rw rh (ox, oy) := (Hhas.out _ _).1 HHj.out
                        obtain ⟨hjN', hjc⟩ := ij_cl hoin
                        obtain ⟨zy, z, z', hz0, hz1, hz2, hz3⟩ := idx_walk Hhi.out.1 hoin
                        simp only at hjN' hjc
                        obtain ⟨j, hj⟩ : ∃ j, ij ix iy rw ox oy = j := ⟨_, rfl⟩
                        rw [hj] at hjN' hjc hz3
                        have hjN : j < N := by rw [HN.out]; exact hjN'
                        obtain ⟨co1, hco⟩ : ∃ co1, co ((dd : Nat) : Int) = co1 := ⟨_, rfl⟩
                        have hcoI : 10 ≤ co1 ∧ co1 ≤ 14 := by rw [← hco]; exact co_pos ⟨dd, hd8⟩
                        have HSR : Hid (stepR wd ht tl f c s ix iy rw rh (cl ix iy rw k) (cl ix iy rw j) co1.toNat) := hide (by
                          rw [hjc, Hck.out.1]
                          have h9 := (lg_step (ix := ix) (iy := iy) (iw := rw) (ih := rh) hd8 Hexy.out.2.2).1 ⟨Hr.out, by rw [Hexy.out.1, Hexy.out.2.1]; exact HHj.out⟩
                          refine ⟨⟨dd, hd8⟩, h9.1, h9.2, by simp only [Hexy.out.1, Hexy.out.2.1], ?_⟩
                          simp only
                          omega)
                        have Hone : Hid (∀ j', j' < rw * rh → cl ix iy rw j' = (ox, oy) → j' = j) := hide fun j' hj' he => by
                          have h9 := cl_ij ix iy (rw := rw) (by have := Hhi.out; omega) j'
                          rw [he] at h9
                          exact h9.symm.trans hj
                        have HCo : Hid (∀ wx, Calls Tryz.prog 23 #[.int .i64 (dd : Nat)] wx fun e w' => e = .returned (.int .i64 co1) ∧ w' = wx) := hide fun wx => by rw [← hco]; exact refcost_any _ wx
                        have Hco := hide hco
                        obtain ⟨⟨o2, o3⟩, -, -⟩ := Hb6.out
                        obtain ⟨⟨s4, s5, s6, s7⟩, -, -⟩ := HC6.out.rc
                        have hjI : (0 : Int) ≤ (j : Nat) ∧ ((j : Nat) : Int) < (N : Nat) := by omega
                        clear hoin hjN' hjc hj hco
                        go_wp2_with fail
                        have cq : ∀ m : Lat w6, m.w.cell? ⟨w.heap.size + 1 + 1 + 1, k, none⟩ = some (.int .i64 ck) := fun m => by rw [← Hckk.out]; exact (HC6.out.upto m.h).nm.c hkl
                        have hvw : IntKind.i64.wrap (ck + co1) = ck + co1 := by rw [IntKind.wrap_i64]; omega
                        have hne := lat_some w6
                        clear o2 o3 s4 s5 s6 s7 hz0 hz1 hz2 hz3
                        refine wp_region_lat (by kernel_rfl) (by kernel_rfl) ?_
                        repeat (go_big_quiet_step (first | (go_at_call 23; exact calls_lat_same (HCo.out _))))
                        refine wpQuiet_nil ?_
                        rintro _ ⟨m, rfl⟩
                        have HCm := hide (HC6.out.upto m.h)
                        have HTm := hide (HT6.out.kept m.h)
                        obtain ⟨cj, hcj⟩ : ∃ cj, C j = cj := ⟨_, rfl⟩
                        have cu := HCm.out.nm.c hjN
                        rw [hcj] at cu
                        have fu := HCm.out.nm.fz j
                        have Hcj := hide hcj
                        clear cq hne HCo HC6 HT6 Hb6 hcj
                        by_cases hj0 : cj < 0
                        · have HCn := hide ((HCm.out.set hjN (ck + co1)).congr (C' := fun m => if m = j then C k + co1 else C m) (fun m _ => by rw [Hckk.out]))
                          have HBn : Hid (Bf wd ht tl f c s ix iy rw rh tg (fun m => if m = j then C k + co1 else C m)) := hide (HBf.out.turn (by rw [← HN.out]; exact hkl) (by rw [← HN.out]; exact hjN) hcoI HSR.out (by rw [Hckk.out]; exact hc0) (.inl (by rw [Hcj.out]; exact hj0)))
                          have HSn : Hid (sC N (fun m => if m = j then C k + co1 else C m) < s0) := hide (Nat.lt_of_lt_of_le (sC_set hjN (by rw [Hckk.out]; omega) (by rw [Hckk.out]; omega) (.inl (by rw [Hcj.out]; exact hj0))) Hle.out)
                          have HTn := hide (HTm.out.past (k := w.heap.size + 1 + 1 + 1) (o := j) (s := .int .i64 (ck + co1)) (by have := Hbc.out; omega))
                          clear HCm HTm
                          go_wp2_with fail
                          go_roundw
                          case rel => exact ⟨dd + 1, _, true, rfl, by go_num, by omega, HCn.out, HBn.out, Nat.le_of_lt HSn.out, fun _ => HSn.out, (fun e => by cases e), HTn.out⟩
                          case measure => simp [intOf]; omega
                        · by_cases hjv : ck + co1 < cj
                          · have HCn := hide ((HCm.out.set hjN (ck + co1)).congr (C' := fun m => if m = j then C k + co1 else C m) (fun m _ => by rw [Hckk.out]))
                            have HBn : Hid (Bf wd ht tl f c s ix iy rw rh tg (fun m => if m = j then C k + co1 else C m)) := hide (HBf.out.turn (by rw [← HN.out]; exact hkl) (by rw [← HN.out]; exact hjN) hcoI HSR.out (by rw [Hckk.out]; exact hc0) (.inr (by rw [Hcj.out, Hckk.out]; exact hjv)))
                            have HSn : Hid (sC N (fun m => if m = j then C k + co1 else C m) < s0) := hide (Nat.lt_of_lt_of_le (sC_set hjN (by rw [Hckk.out]; omega) (by rw [Hckk.out]; omega) (.inr (by rw [Hcj.out, Hckk.out]; exact hjv))) Hle.out)
                            have HTn := hide (HTm.out.past (k := w.heap.size + 1 + 1 + 1) (o := j) (s := .int .i64 (ck + co1)) (by have := Hbc.out; omega))
                            clear HCm HTm
                            go_wp2_with fail
                            go_roundw
                            case rel => exact ⟨dd + 1, _, true, rfl, by go_num, by omega, HCn.out, HBn.out, Nat.le_of_lt HSn.out, fun _ => HSn.out, (fun e => by cases e), HTn.out⟩
                            case measure => simp [intOf]; omega
                          · have HF2 : Hid (bb = false → (∀ i', i' < k → ∀ d, d < 8 → Fn wd ht tl f c s ix iy rw rh C i' d) ∧ ∀ d, d < dd + 1 → Fn wd ht tl f c s ix iy rw rh C k d) := hide fun e => ⟨(HFn.out e).1, fun d hd => by
                                by_cases e2 : d = dd
                                · subst e2
                                  intro _ k' hk' hL hn
                                  rw [Hck.out.1, Hexy.out.1, Hexy.out.2.1] at hn
                                  rw [Hone.out k' hk' hn, Hcj.out, Hckk.out, Hco.out]
                                  omega
                                · exact (HFn.out e).2 d (by omega)⟩
                            go_wp2_with fail
                            go_roundw
                            case rel => exact ⟨dd + 1, C, bb, rfl, by go_num, by omega, HCm.out, HBf.out, Hle.out, Hlts.out, HF2.out, HTm.out⟩
                            case measure => simp [intOf]; omega
                  · have hdI : ¬ ((dd : Nat) : Int) < 8 := by omega
                    have hde : dd = 8 := by omega
                    subst hde
                    have HF2 : Hid (bb = false → ∀ i', i' < k + 1 → ∀ d, d < 8 → Fn wd ht tl f c s ix iy rw rh C i' d) := hide fun e i' hi' d hd => by
                      by_cases e2 : i' = k
                      · subst e2; exact (HFn.out e).2 d hd
                      · exact (HFn.out e).1 i' (by omega) d hd
                    go_wp2_with fail
                    go_roundw
                    case rel => exact ⟨k + 1, C, bb, rfl, by go_num, by omega, HC.out, HBf.out, Hle.out, Hlts.out, HF2.out⟩
                    case measure => simp [intOf]; omega
                · have HF2 : Hid (bb = false → ∀ i', i' < k + 1 → ∀ d, d < 8 → Fn wd ht tl f c s ix iy rw rh C i' d) := hide fun e i' hi' d hd => by
                    by_cases e2 : i' = k
                    · subst e2; intro h9; rw [Hckk.out] at h9; exact absurd h9 hc0
                    · exact (HFn.out e).1 i' (by omega) d hd
                  go_wp2_with fail
                  go_roundw
                  case rel => exact ⟨k + 1, C, bb, rfl, by go_num, by omega, HC.out, HBf.out, Hle.out, Hlts.out, HF2.out⟩
                  case measure => simp [intOf]; omega
            · have hkI : ¬ ((k : Nat) : Int) < (N : Nat) := by omega
              have hke : N = k := by omega
              subst hke
              have HC := hide hC
              have HBf := hide hBf
              have HFn := hide hFn
              have Hm : Hid (b1 = true → sC N C1 < s0) := hide hlts
              have Hl := hide hle
              have Hsw := hide (sW_of hC.nm)
              clear hC hBf hle hlts hFn
              go_wp2_with fail
              go_roundw
              case rel => exact ⟨C1, b1, rfl, HC.out, HBf.out, HFn.out⟩
              case measure =>
                rw [Hsw.out, Hs0.out]
                cases b1
                · have := Hl.out; simp only [flag]; omega
                · have := Hm.out rfl; simp only [flag]; omega
end Go.Proofs.YtggaobcdogbjhaaGreatDoor
set_option linter.unusedSimpArgs false
namespace Go.Proofs.YtggaobcdogbjhaaGreatDoor
open Go.RowKit Go.Shelf
set_option linter.unusedVariables false
/-- The slice tells, cell by cell of the world, where the shape stands. -/
def Grd (w : World) (W H : Int) (tl : List Nat) (f : Int → Int → Option Int) (c s : Int) (iv : Value) : Prop :=
  ∃ wd ht : Nat, W = (wd : Int) ∧ H = (ht : Int) ∧ ((1 ≤ wd ∧ wd ≤ 128) ∧ 1 ≤ ht ∧ ht ≤ 128) ∧ Rw 4 1 cB w iv ((List.range (wd * ht)).map (fun k => stB wd ht tl f c s ((k % wd : Nat) : Int) ((k / wd : Nat) : Int)))
theorem Grd.upto {w w' : World} {W H : Int} {tl : List Nat} {f : Int → Int → Option Int} {c s : Int} {iv : Value} (h : Grd w W H tl f c s iv) (hb : Below w.heap.size w w') : Grd w' W H tl f c s iv := by
  obtain ⟨wd, ht, h1, h2, h3, h4⟩ := h
  exact ⟨wd, ht, h1, h2, h3, h4.upto hb⟩
theorem of_is {w : World} {r : Nat} {W H : Int} {tl : List Nat} {L : List Bd} (c s : Int) (hw : Rl w r W H tl L) (hc : chkC W H tl L = 0) :
    Calls Tryz.prog 10 #[ptr r, shv c s] w fun e w' => ∃ a n cap, e = .returned (.agg #[.int .i64 W, .int .i64 H, .slice a n cap]) ∧ Grd w' W H tl (whoF L) c s (.slice a n cap) ∧ Below w.heap.size w w' := by
  obtain ⟨wd, ht, rfl, rfl, hd⟩ := dims_is hc
  refine (of_gr c s hw hd rfl).mono ?_
  rintro e w' ⟨iv, rfl, h1, h2⟩
  obtain ⟨a, cap, e, -⟩ := (show Gd w' wd ht (wd * ht) _ iv from h1).form
  subst e
  exact ⟨a, _, cap, rfl, ⟨wd, ht, rfl, rfl, hd, h1⟩, h2⟩
theorem dstands_is {w : World} {W H : Int} {tl : List Nat} {f : Int → Int → Option Int} {c s : Int} {a : Option Addr} {n cap : Nat} (x y : Int) (h : Grd w W H tl f c s (.slice a n cap)) :
    Calls Tryz.prog 40 #[.agg #[.int .i64 W, .int .i64 H, .slice a n cap], cel x y] w fun e w' => e = .returned (.bool (stB W H tl f c s x y)) ∧ Below w.heap.size w w' := by
  obtain ⟨wd, ht, rfl, rfl, hd, hG⟩ := h
  have := gstands_any x y (show Gd w wd ht (wd * ht) _ _ from hG) ⟨hd.1.2, hd.2.2⟩ rfl
  rwa [gS_st hd] at this
theorem dsteps_is {w : World} {W H : Int} {tl : List Nat} {f : Int → Int → Option Int} {c s : Int} {a : Option Addr} {n cap : Nat} (x y d : Int) (h : Grd w W H tl f c s (.slice a n cap)) :
    Calls Tryz.prog 42 #[.agg #[.int .i64 W, .int .i64 H, .slice a n cap], cel x y, .int .i64 d] w fun e w' => e = .returned (.tuple #[cel (if lg (stB W H tl f c s) x y d = true then sX x y d else 0) (if lg (stB W H tl f c s) x y d = true then sY x y d else 0), .bool (lg (stB W H tl f c s) x y d)]) ∧ Below w.heap.size w w' := by
  obtain ⟨wd, ht, rfl, rfl, hd, hG⟩ := h
  exact dst_is hd rfl hG d w (Below.refl _ _) x y
theorem dcosts_is {w : World} {W H : Int} {tl : List Nat} {f : Int → Int → Option Int} {c s ix iy iw ih fx fy : Int} {a : Option Addr} {n cap : Nat} (h : Grd w W H tl f c s (.slice a n cap)) (hA : W * H ≤ 1000) (hr : 0 ≤ ix ∧ 0 ≤ iy ∧ ix + iw ≤ W ∧ iy + ih ≤ H ∧ 0 < iw ∧ 0 < ih) (hf : inB ix iy iw ih (fx, fy)) :
    Calls Tryz.prog 19 #[.agg #[.int .i64 W, .int .i64 H, .slice a n cap], cel fx fy, rct ix iy iw ih] w (DEnd W H tl f c s ix iy iw ih fx fy w) := by
  obtain ⟨wd, ht, rfl, rfl, hd, hG⟩ := h
  obtain ⟨rw, rfl⟩ : ∃ rw : Nat, iw = rw := ⟨iw.toNat, by omega⟩
  obtain ⟨rh, rfl⟩ : ∃ rh : Nat, ih = rh := ⟨ih.toNat, by omega⟩
  have h1 : rw * rh ≤ wd * ht := Nat.mul_le_mul (by omega) (by omega)
  have h2 : wd * ht ≤ 1000 := by have : ((wd * ht : Nat) : Int) ≤ 1000 := by push_cast; exact hA
                                 omega
  exact dcosts_any hd hG (by omega) (by omega) (by omega) hf
end Go.Proofs.YtggaobcdogbjhaaGreatDoor
namespace Go.Proofs.YtggaobcdogbjhaaGreatDoor
open Go.RowKit Go.Shelf
set_option linter.unusedVariables false
set_option linter.unusedSimpArgs false
attribute [local go_sem] Oper.semAt_some
theorem flat_cs : ∀ (P : List (Int × Int)) (i : Nat) (q : Int × Int), P[i]? = some q → (P.flatMap ceCs)[i * 2]? = some (.int .i64 q.1) ∧ (P.flatMap ceCs)[i * 2 + 1]? = some (.int .i64 q.2)
  | [], i, q, h => by simp at h
  | p :: P, 0, q, h => by simp at h; subst h; simp [ceCs]
  | p :: P, i + 1, q, h => by
    have := flat_cs P i q (by simpa using h)
    rw [List.flatMap_cons, show (i + 1) * 2 = i * 2 + 2 by omega]
    exact ⟨by simpa [ceCs] using this.1, by simpa [ceCs] using this.2⟩
theorem Cn.ceR {w : World} {v : Value} {P : List (Int × Int)} (h : Cn w v P) (hP : P.length ≤ 1000000000) : CeR w v P ∧ (∃ a cap, v = .slice a P.length cap ∧ (P ≠ [] → ∃ g, a = some ⟨g, 0, none⟩) ∧ cap ≤ maxLen) := by
  have hm : P.length ≤ maxLen := by unfold maxLen; omega
  rcases h.2 with ⟨e, e2⟩ | ⟨g, cap, cur, e, hb, hg, r⟩
  · have hl : P = [] := List.length_eq_zero_iff.1 e2
    subst hl
    subst e
    exact ⟨⟨none, 0, rfl, Nat.le_refl _, hm, fun _ => ⟨rfl, rfl⟩, fun i q hq => by simp at hq⟩, none, 0, rfl, fun h => absurd rfl h, Nat.zero_le _⟩
  · subst e
    obtain ⟨r1, r2, r3, r4⟩ := r
    refine ⟨⟨_, cap, rfl, r1, hm, (fun h => by cases h), fun i q hq => ?_⟩, _, cap, rfl, fun _ => ⟨g, rfl⟩, r2⟩
    have hi := (List.getElem?_eq_some_iff.1 hq).1
    obtain ⟨f1, f2⟩ := flat_cs P i q hq
    have hk : ∀ j u, (P.flatMap ceCs)[j]? = some u → w.cell? ⟨g, j, none⟩ = some u := fun j u hu => by
      have hj := (List.getElem?_eq_some_iff.1 hu).1
      rw [← r4, List.getElem?_take] at hu
      split at hu
      · rw [cell_of_row w g j _ _ _ hg]
        rw [← Array.getElem?_toList]
        exact hu
      · cases hu
    refine ⟨g, 0, rfl, (Array.getElem?_eq_some_iff.1 hg).1, ?_, ?_⟩
    · rw [Nat.zero_add]; exact hk _ _ f1
    · rw [Nat.zero_add]; exact hk _ _ f2
/-- From place k on. -/
def hiC (g cap n k : Nat) : Value := .slice (some (if cap = k then ⟨g, 0, none⟩ else ⟨g, k * 2, none⟩)) (n - k) (cap - k)
theorem run_hiC {ev : Operand → Value} {o : Oper} {w : World} {x t : Operand} {g n cap k : Nat} {ki : Int} (ho : o.op = .slice 39 x (some t) none none) (hx : ev x = .slice (some ⟨g, 0, none⟩) n cap) (ht : ev t = .int .i64 ki) (hki : ki = (k : Nat)) (hk : k ≤ n) (hn : n ≤ cap) (hcap : cap ≤ maxLen) :
    (execOp ev o).run Tryz.prog w = .ok (.value (hiC g cap n k)) w := by
  subst hki
  have h1 : (0 : Int) ≤ (k : Nat) ∧ (k : Int) ≤ (n : Nat) ∧ (n : Int) ≤ (cap : Nat) ∧ (cap : Int) ≤ 9223372036854775807 := by unfold maxLen at hcap; omega
  unfold execOp hiC
  rw [ho]
  simp only [hx, ht]
  by_cases hc : cap = k
  · have hc' : cap - k = 0 := by omega
    rw [if_pos hc]
    go_simp
  · have hc' : ¬ cap - k = 0 := by omega
    rw [if_neg hc]
    go_simp
theorem CeR.drop {w : World} {g cap k : Nat} {P : List (Int × Int)} (h : CeR w (.slice (some ⟨g, 0, none⟩) P.length cap) P) (hk : k ≤ P.length) : CeR w (hiC g cap P.length k) (P.drop k) := by
  obtain ⟨a, c2, e, h1, h2, h3, h4⟩ := h
  injection e with e1 e2 e3
  subst e1; subst e3
  have hl : (P.drop k).length = P.length - k := List.length_drop
  unfold hiC
  refine ⟨_, _, by rw [hl], by omega, by omega, (fun h => by cases h), fun i q hq => ?_⟩
  have hi := (List.getElem?_eq_some_iff.1 hq).1
  rw [List.getElem?_drop] at hq
  obtain ⟨g', o', f1, f2, f3, f4⟩ := h4 _ q hq
  injection f1 with f1
  injection f1 with f1 f5 f6
  subst f1; subst f5
  rw [if_neg (by omega)]
  refine ⟨g, k * 2, rfl, f2, ?_, ?_⟩
  · rw [show k * 2 + i * 2 = 0 + (k + i) * 2 by omega]; exact f3
  · rw [show k * 2 + i * 2 + 1 = 0 + (k + i) * 2 + 1 by omega]; exact f4
set_option maxRecDepth 100000 in
set_option maxHeartbeats 4000000 in
theorem refcells_yes (va vb : Value) (P : List (Int × Int)) (w : World) (ha : CeR w va P) (hb : CeR w vb P) : Calls Tryz.prog 25 #[va, vb] w fun e w' => e = .returned (.bool true) ∧ Below w.heap.size w w' := by
  have ha' := ha
  have hb' := hb
  obtain ⟨a, cap, rfl, hcap, hmax, -, -⟩ := ha'
  obtain ⟨b, capb, rfl, hcapb, -, -, -⟩ := hb'
  have hl63 : (0 : Int) ≤ (P.length : Nat) ∧ ((P.length : Nat) : Int) ≤ 9223372036854775807 := by
    have : P.length ≤ 9223372036854775807 := hmax
    omega
  go_enter Tryz.func25, Tryz.ntmps25
  go_wp2_with fail
  go_loopw [5] (fun s5 wr => ∃ k : Nat, k ≤ P.length ∧ s5 = .int .i64 k ∧ Below w.heap.size w wr) (fun s5 _ => P.length - (intOf s5).toNat)
  case atStart => exact ⟨0, Nat.zero_le _, rfl, Below.refl _ _⟩
  case round =>
    obtain ⟨k, hk, rfl, hB⟩ := hrel
    by_cases hlt : k < P.length
    · obtain ⟨q, hq⟩ : ∃ q, P[k]? = some q := ⟨_, List.getElem?_eq_getElem hlt⟩
      obtain ⟨g, o, hga, hgl, c0, c1⟩ : ∃ g o, a = some ⟨g, o, none⟩ ∧ g < wr.heap.size ∧ wr.cell? ⟨g, o + k * 2, none⟩ = some (.int .i64 q.1) ∧ wr.cell? ⟨g, o + k * 2 + 1, none⟩ = some (.int .i64 q.2) := by
        obtain ⟨a', cap', he', _, _, _, hform⟩ := ha.kept hB
        obtain ⟨g', o', hgg, h0, e1, e2⟩ := hform k q hq
        injection he' with h1 h2 h3
        exact ⟨g', o', h1.trans hgg, h0, e1, e2⟩
      obtain ⟨g2, o2, hgb, hgl2, d0, d1⟩ : ∃ g o, b = some ⟨g, o, none⟩ ∧ g < wr.heap.size ∧ wr.cell? ⟨g, o + k * 2, none⟩ = some (.int .i64 q.1) ∧ wr.cell? ⟨g, o + k * 2 + 1, none⟩ = some (.int .i64 q.2) := by
        obtain ⟨a', cap', he', _, _, _, hform⟩ := hb.kept hB
        obtain ⟨g', o', hgg, h0, e1, e2⟩ := hform k q hq
        injection he' with h1 h2 h3
        exact ⟨g', o', h1.trans hgg, h0, e1, e2⟩
      subst hga
      subst hgb
      have hki : (k : Int) < (P.length : Nat) := by omega
      have l0 : ∀ n : Lat wr, n.w.cell? ⟨g, o + k * 2, none⟩ = some (.int .i64 q.1) := fun n => (n.h.cell (p := ⟨g, _, none⟩) hgl).trans c0
      have l1 : ∀ n : Lat wr, n.w.cell? ⟨g, o + k * 2 + 1, none⟩ = some (.int .i64 q.2) := fun n => (n.h.cell (p := ⟨g, _, none⟩) hgl).trans c1
      have l2 : ∀ n : Lat wr, n.w.cell? ⟨g2, o2 + k * 2, none⟩ = some (.int .i64 q.1) := fun n => (n.h.cell (p := ⟨g2, _, none⟩) hgl2).trans d0
      have l3 : ∀ n : Lat wr, n.w.cell? ⟨g2, o2 + k * 2 + 1, none⟩ = some (.int .i64 q.2) := fun n => (n.h.cell (p := ⟨g2, _, none⟩) hgl2).trans d1
      have hne := lat_some wr
      clear c0 c1 d0 d1
      go_wp2_with fail
      refine wp_region_lat (by kernel_rfl) (by kernel_rfl) ?_
      repeat (go_big_quiet_step (fail))
      refine wpQuiet_nil ?_
      rintro _ ⟨m, rfl⟩
      have HB2 := hide (bt hB m.h)
      clear l0 l1 l2 l3 hB
      go_wp2_with fail
      go_roundw
      case rel => exact ⟨k + 1, by omega, by go_num, HB2.out⟩
      case measure => simp [intOf]; omega
    · obtain rfl : k = P.length := by omega
      have hki : ¬ ((P.length : Nat) : Int) < (P.length : Nat) := by omega
      go_wp2_with fail
      go_ret
      exact ⟨rfl, hB⟩
end Go.Proofs.YtggaobcdogbjhaaGreatDoor
