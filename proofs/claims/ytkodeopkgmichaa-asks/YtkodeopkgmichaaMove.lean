/-
  Move.
-/
import Derived.Test.YtkodeopkgmichaaTake
namespace Go.Proofs.Ytkodeopkgmichaa
open Go.RowKit Go.Shelf
set_option linter.unusedVariables false
set_option linter.unusedSimpArgs false
attribute [local go_sem] Oper.semAt_some
set_option maxRecDepth 100000 in
set_option maxHeartbeats 4000000 in
theorem move_none (p fm bm n m : Nat) (g : Int → Option Rc) (f : Int → Int → Option Int) (i x y : Int) (w : World) (h : Ix w p fm bm n m g f) (hi : W64 i) (hg : g i = none) :
    Calls Try.prog 17 #[ptr p, .int .i64 i, cel x y] w fun e w' => e = .returned (.int .i64 4) ∧ Below w.heap.size w w' := by
  have hmn := made_yes p fm
  have B0 := box1 w (.cells #[.int .i64 x, .int .i64 y] 32)
  have h0 := h.kept B0
  have C0 := cells2 (Below.refl (w.alloc (.cells #[.int .i64 x, .int .i64 y] 32)).heap.size (w.alloc (.cells #[.int .i64 x, .int .i64 y] 32)))
  obtain ⟨X, hX⟩ : ∃ X, w.alloc (.cells #[.int .i64 x, .int .i64 y] 32) = X := ⟨_, rfl⟩
  rw [hX] at B0 h0 C0
  obtain ⟨⟨x0, x1⟩, -, zx⟩ := C0
  have HM := hide (made_yes p fm X h0.c0)
  have c0 := h0.c0
  have hlook := h0.feet.look hi
  rw [hg] at hlook
  have HX := hide hX
  clear hX hmn
  simp only [Option.getD_none, Option.isSome_none, Rc.no] at hlook
  go_enter Try.func17, Try.ntmps17
  go_wp2_with (first | rw [HX.out] | (go_at_call 27; refine HM.out.mono ?_; rintro e w1 ⟨rfl, hw1⟩; have hw2 := hw1.symm; subst hw2))
  go_ret
  exact ⟨rfl, bt B0 (box1 _ _)⟩
set_option maxRecDepth 100000 in
set_option maxHeartbeats 4000000 in
theorem move_may (p fm bm n m : Nat) (g : Int → Option Rc) (f : Int → Int → Option Int) (i x y : Int) (w : World) (h : Ix w p fm bm n m g f) (hi : W64 i) {r : Rc} (hg : g i = some r) (hm : may x y r.a r.b = false) :
    Calls Try.prog 17 #[ptr p, .int .i64 i, cel x y] w fun e w' => e = .returned (.int .i64 1) ∧ Below w.heap.size w w' := by
  have hmn := made_yes p fm
  have B0 := box1 w (.cells #[.int .i64 x, .int .i64 y] 32)
  have h0 := h.kept B0
  have C0 := cells2 (Below.refl (w.alloc (.cells #[.int .i64 x, .int .i64 y] 32)).heap.size (w.alloc (.cells #[.int .i64 x, .int .i64 y] 32)))
  obtain ⟨X, hX⟩ : ∃ X, w.alloc (.cells #[.int .i64 x, .int .i64 y] 32) = X := ⟨_, rfl⟩
  rw [hX] at B0 h0 C0
  obtain ⟨⟨x0, x1⟩, -, zx⟩ := C0
  have HM := hide (made_yes p fm X h0.c0)
  have c0 := h0.c0
  have hlook := h0.feet.look hi
  rw [hg] at hlook
  have HX := hide hX
  clear hX hmn
  simp only [Option.getD_some, Option.isSome_some] at hlook
  have B1 := box1 X (.cells #[.int .i64 r.x, .int .i64 r.y, .int .i64 r.a, .int .i64 r.b] 34)
  have G1 : Four (X.alloc (.cells #[.int .i64 r.x, .int .i64 r.y, .int .i64 r.a, .int .i64 r.b] 34)) X.heap.size r.x r.y r.a r.b := cells4 (Below.refl _ _)
  obtain ⟨Y, hY⟩ : ∃ Y, X.alloc (.cells #[.int .i64 r.x, .int .i64 r.y, .int .i64 r.a, .int .i64 r.b] 34) = Y := ⟨_, rfl⟩
  rw [hY] at B1 G1
  have h1 := h0.kept B1
  have y0 := (B1.cell (p := ⟨w.heap.size, 0, none⟩) zx).trans x0
  have y1 := (B1.cell (p := ⟨w.heap.size, 1, none⟩) zx).trans x1
  obtain ⟨⟨g0, g1, g2, g3⟩, -, zg⟩ := id G1
  have B2 := box1 Y (.cells #[.int .i64 x, .int .i64 y, .int .i64 r.a, .int .i64 r.b] 34)
  have G2 : Four (Y.alloc (.cells #[.int .i64 x, .int .i64 y, .int .i64 r.a, .int .i64 r.b] 34)) Y.heap.size x y r.a r.b := cells4 (Below.refl _ _)
  obtain ⟨Z, hZ⟩ : ∃ Z, Y.alloc (.cells #[.int .i64 x, .int .i64 y, .int .i64 r.a, .int .i64 r.b] 34) = Z := ⟨_, rfl⟩
  rw [hZ] at B2 G2
  have h2 := h1.kept B2
  have G12 := G1.kept B2
  obtain ⟨⟨k0, k1, k2, k3⟩, -, -⟩ := id G2
  have HY := hide hY
  have HZ := hide hZ
  have HB2 := hide (bt B0 (bt B1 B2))
  have HG1 := hide G12
  have HG2 := hide G2
  clear hY hZ G1 G2 G12 B0 B1 B2
  go_enter Try.func17, Try.ntmps17
  go_wp2_with (first | rw [HX.out] | rw [HY.out] | rw [HZ.out] | (go_at_call 27; refine HM.out.mono ?_; rintro e w1 ⟨rfl, hw1⟩; have hw2 := hw1.symm; subst hw2))
  refine (may_is Z hm).mono ?_
  rintro e w3 ⟨rfl, hb3⟩
  have HB3 := hide (bt HB2.out hb3)
  have G13 := HG1.out.kept hb3
  have G23 := HG2.out.kept hb3
  have h3 := h2.kept hb3
  obtain ⟨⟨m0, m1, m2, m3⟩, -, -⟩ := id G23
  clear k0 k1 k2 k3
  go_wp2_with fail
  go_ret
  exact ⟨rfl, HB3.out⟩
set_option maxRecDepth 100000 in
set_option maxHeartbeats 4000000 in
theorem move_busy (p fm bm n m : Nat) (g : Int → Option Rc) (f : Int → Int → Option Int) (i x y : Int) (w : World) (h : Ix w p fm bm n m g f) (hi : W64 i) {r : Rc} (hg : g i = some r) (hm : may x y r.a r.b = true) (hs : sm r.a r.b = true) (hf : (onL f (allC x y r.a r.b)).all (fun j => decide (j = i)) = false) :
    Calls Try.prog 17 #[ptr p, .int .i64 i, cel x y] w fun e w' => e = .returned (.int .i64 6) ∧ Below w.heap.size w w' := by
  have hmn := made_yes p fm
  have B0 := box1 w (.cells #[.int .i64 x, .int .i64 y] 32)
  have h0 := h.kept B0
  have C0 := cells2 (Below.refl (w.alloc (.cells #[.int .i64 x, .int .i64 y] 32)).heap.size (w.alloc (.cells #[.int .i64 x, .int .i64 y] 32)))
  obtain ⟨X, hX⟩ : ∃ X, w.alloc (.cells #[.int .i64 x, .int .i64 y] 32) = X := ⟨_, rfl⟩
  rw [hX] at B0 h0 C0
  obtain ⟨⟨x0, x1⟩, -, zx⟩ := C0
  have HM := hide (made_yes p fm X h0.c0)
  have c0 := h0.c0
  have hlook := h0.feet.look hi
  rw [hg] at hlook
  have HX := hide hX
  clear hX hmn
  simp only [Option.getD_some, Option.isSome_some] at hlook
  have B1 := box1 X (.cells #[.int .i64 r.x, .int .i64 r.y, .int .i64 r.a, .int .i64 r.b] 34)
  have G1 : Four (X.alloc (.cells #[.int .i64 r.x, .int .i64 r.y, .int .i64 r.a, .int .i64 r.b] 34)) X.heap.size r.x r.y r.a r.b := cells4 (Below.refl _ _)
  obtain ⟨Y, hY⟩ : ∃ Y, X.alloc (.cells #[.int .i64 r.x, .int .i64 r.y, .int .i64 r.a, .int .i64 r.b] 34) = Y := ⟨_, rfl⟩
  rw [hY] at B1 G1
  have h1 := h0.kept B1
  have y0 := (B1.cell (p := ⟨w.heap.size, 0, none⟩) zx).trans x0
  have y1 := (B1.cell (p := ⟨w.heap.size, 1, none⟩) zx).trans x1
  obtain ⟨⟨g0, g1, g2, g3⟩, -, zg⟩ := id G1
  have B2 := box1 Y (.cells #[.int .i64 x, .int .i64 y, .int .i64 r.a, .int .i64 r.b] 34)
  have G2 : Four (Y.alloc (.cells #[.int .i64 x, .int .i64 y, .int .i64 r.a, .int .i64 r.b] 34)) Y.heap.size x y r.a r.b := cells4 (Below.refl _ _)
  obtain ⟨Z, hZ⟩ : ∃ Z, Y.alloc (.cells #[.int .i64 x, .int .i64 y, .int .i64 r.a, .int .i64 r.b] 34) = Z := ⟨_, rfl⟩
  rw [hZ] at B2 G2
  have h2 := h1.kept B2
  have G12 := G1.kept B2
  obtain ⟨⟨k0, k1, k2, k3⟩, -, -⟩ := id G2
  have HY := hide hY
  have HZ := hide hZ
  have HB2 := hide (bt B0 (bt B1 B2))
  have HG1 := hide G12
  have HG2 := hide G2
  clear hY hZ G1 G2 G12 B0 B1 B2
  go_enter Try.func17, Try.ntmps17
  go_wp2_with (first | rw [HX.out] | rw [HY.out] | rw [HZ.out] | (go_at_call 27; refine HM.out.mono ?_; rintro e w1 ⟨rfl, hw1⟩; have hw2 := hw1.symm; subst hw2))
  refine (may_is Z hm).mono ?_
  rintro e w3 ⟨rfl, hb3⟩
  have HB3 := hide (bt HB2.out hb3)
  have G13 := HG1.out.kept hb3
  have G23 := HG2.out.kept hb3
  have h3 := h2.kept hb3
  obtain ⟨⟨m0, m1, m2, m3⟩, -, -⟩ := id G23
  clear k0 k1 k2 k3
  go_wp2_with fail
  refine (free_is w3 h3 hm hs hf).mono ?_
  rintro e w4 ⟨rfl, hb4⟩
  have HB4 := hide (bt HB3.out hb4)
  have G14 := G13.kept hb4
  have G24 := G23.kept hb4
  have h4 := h3.kept hb4
  obtain ⟨⟨n0, n1, n2, n3⟩, -, zn⟩ := id G14
  clear m0 m1 m2 m3
  go_wp2_with fail
  go_ret
  exact ⟨rfl, HB4.out⟩
set_option maxRecDepth 100000 in
set_option maxHeartbeats 4000000 in
theorem move_ok (p fm bm n m : Nat) (g : Int → Option Rc) (f : Int → Int → Option Int) (i x y : Int) (w : World) (h : Ix w p fm bm (n + 1) m g f) (hi : W64 i) {r : Rc} (hg : g i = some r) (hn : n < 256) (hmm : m + (allC x y r.a r.b).length < maxLen) (hm : may x y r.a r.b = true) (hs : sm r.a r.b = true) (hf : (onL f (allC x y r.a r.b)).all (fun j => decide (j = i)) = true) :
    Calls Try.prog 17 #[ptr p, .int .i64 i, cel x y] w fun e w' => e = .returned (.int .i64 0) ∧ Ix w' p fm bm (n + 1) (m + (allC x y r.a r.b).length) (fun j => if j = i then some ⟨x, y, r.a, r.b⟩ else g j) (putAll (delAll f (allC r.x r.y r.a r.b)) (allC x y r.a r.b) i) ∧ Turns (fun k => k = fm ∨ k = bm) w w' := by
  have hmn := made_yes p fm
  have B0 := box1 w (.cells #[.int .i64 x, .int .i64 y] 32)
  have h0 := h.kept B0
  have C0 := cells2 (Below.refl (w.alloc (.cells #[.int .i64 x, .int .i64 y] 32)).heap.size (w.alloc (.cells #[.int .i64 x, .int .i64 y] 32)))
  obtain ⟨X, hX⟩ : ∃ X, w.alloc (.cells #[.int .i64 x, .int .i64 y] 32) = X := ⟨_, rfl⟩
  rw [hX] at B0 h0 C0
  obtain ⟨⟨x0, x1⟩, -, zx⟩ := C0
  have HM := hide (made_yes p fm X h0.c0)
  have c0 := h0.c0
  have hlook := h0.feet.look hi
  rw [hg] at hlook
  have HX := hide hX
  clear hX hmn
  simp only [Option.getD_some, Option.isSome_some] at hlook
  have B1 := box1 X (.cells #[.int .i64 r.x, .int .i64 r.y, .int .i64 r.a, .int .i64 r.b] 34)
  have G1 : Four (X.alloc (.cells #[.int .i64 r.x, .int .i64 r.y, .int .i64 r.a, .int .i64 r.b] 34)) X.heap.size r.x r.y r.a r.b := cells4 (Below.refl _ _)
  obtain ⟨Y, hY⟩ : ∃ Y, X.alloc (.cells #[.int .i64 r.x, .int .i64 r.y, .int .i64 r.a, .int .i64 r.b] 34) = Y := ⟨_, rfl⟩
  rw [hY] at B1 G1
  have h1 := h0.kept B1
  have y0 := (B1.cell (p := ⟨w.heap.size, 0, none⟩) zx).trans x0
  have y1 := (B1.cell (p := ⟨w.heap.size, 1, none⟩) zx).trans x1
  obtain ⟨⟨g0, g1, g2, g3⟩, -, zg⟩ := id G1
  have B2 := box1 Y (.cells #[.int .i64 x, .int .i64 y, .int .i64 r.a, .int .i64 r.b] 34)
  have G2 : Four (Y.alloc (.cells #[.int .i64 x, .int .i64 y, .int .i64 r.a, .int .i64 r.b] 34)) Y.heap.size x y r.a r.b := cells4 (Below.refl _ _)
  obtain ⟨Z, hZ⟩ : ∃ Z, Y.alloc (.cells #[.int .i64 x, .int .i64 y, .int .i64 r.a, .int .i64 r.b] 34) = Z := ⟨_, rfl⟩
  rw [hZ] at B2 G2
  have h2 := h1.kept B2
  have G12 := G1.kept B2
  obtain ⟨⟨k0, k1, k2, k3⟩, -, -⟩ := id G2
  have HY := hide hY
  have HZ := hide hZ
  have HB2 := hide (bt B0 (bt B1 B2))
  have HG1 := hide G12
  have HG2 := hide G2
  clear hY hZ G1 G2 G12 B0 B1 B2
  go_enter Try.func17, Try.ntmps17
  go_wp2_with (first | rw [HX.out] | rw [HY.out] | rw [HZ.out] | (go_at_call 27; refine HM.out.mono ?_; rintro e w1 ⟨rfl, hw1⟩; have hw2 := hw1.symm; subst hw2))
  refine (may_is Z hm).mono ?_
  rintro e w3 ⟨rfl, hb3⟩
  have HB3 := hide (bt HB2.out hb3)
  have G13 := HG1.out.kept hb3
  have G23 := HG2.out.kept hb3
  have h3 := h2.kept hb3
  obtain ⟨⟨m0, m1, m2, m3⟩, -, -⟩ := id G23
  clear k0 k1 k2 k3
  go_wp2_with fail
  refine (free_is w3 h3 hm hs hf).mono ?_
  rintro e w4 ⟨rfl, hb4⟩
  have HB4 := hide (bt HB3.out hb4)
  have G14 := G13.kept hb4
  have G24 := G23.kept hb4
  have h4 := h3.kept hb4
  obtain ⟨⟨n0, n1, n2, n3⟩, -, zn⟩ := id G14
  clear m0 m1 m2 m3
  go_wp2_with fail
  refine (leave_any p fm bm n m g f i r w4 h4 hi (by rw [hg]; rfl)).mono ?_
  rintro e w5 ⟨rfl, h5, t5⟩
  obtain ⟨hpf, hpb⟩ := h.apart
  have hfl := h.feet.lt
  have hbl := h.who.lt
  have G25 := G24.turned t5 (fun e => by have := HB2.out.size; have := zx; omega)
  obtain ⟨⟨o0, o1, o2, o3⟩, -, -⟩ := id G25
  have H5 := hide h5
  have HT5 := hide ((Turns.of_below (S := fun k => k = fm ∨ k = bm) HB4.out).trans (t5.mono (fun k _ e => .inl e)))
  clear n0 n1 n2 n3 h5 t5
  go_wp2_with fail
  refine (stand_any p fm bm n m (fun j => if j = i then none else g j) (delAll f (allC r.x r.y r.a r.b)) i ⟨x, y, r.a, r.b⟩ w5 H5.out hi (by unfold maxLen; omega) hmm).mono ?_
  rintro e w6 ⟨rfl, h6, t6⟩
  have e6 : (fun j => if j = i then some (⟨x, y, r.a, r.b⟩ : Rc) else if j = i then none else g j) = (fun j => if j = i then some ⟨x, y, r.a, r.b⟩ else g j) := by
    funext j
    by_cases hj : j = i
    · simp [hj]
    · simp [hj]
  rw [e6] at h6
  simp only [if_true, Option.isSome_none, Bool.false_eq_true, if_false] at h6
  have H6 := hide h6
  have HT6 := hide (HT5.out.trans (t6.mono (fun k _ e => .inl e)))
  clear h6 t6
  go_wp2_with fail
  go_ret
  exact ⟨rfl, H6.out, HT6.out⟩
end Go.Proofs.Ytkodeopkgmichaa
