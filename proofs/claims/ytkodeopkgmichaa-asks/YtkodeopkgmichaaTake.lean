/-
  Take, Find; Put that is refused.
-/
import Derived.Test.YtkodeopkgmichaaLeave
namespace Go.Proofs.Ytkodeopkgmichaa
open Go.RowKit Go.Shelf
set_option linter.unusedVariables false
set_option linter.unusedSimpArgs false
attribute [local go_sem] Oper.semAt_some
set_option maxRecDepth 100000 in
set_option maxHeartbeats 1000000 in
theorem take_none (p fm bm n m : Nat) (g : Int → Option Rc) (f : Int → Int → Option Int) (i : Int) (w : World) (h : Ix w p fm bm n m g f) (hi : W64 i) (hg : g i = none) :
    Calls Try.prog 18 #[ptr p, .int .i64 i] w fun e w' => e = .returned (.int .i64 4) ∧ Below w.heap.size w w' := by
  have HM := hide (made_yes p fm w h.c0)
  have c0 := h.c0
  have hlook := h.feet.look hi
  rw [hg] at hlook
  simp only [Option.getD_none, Option.isSome_none, Rc.no] at hlook
  go_enter Try.func18, Try.ntmps18
  go_wp2_with (go_at_call 27; refine HM.out.mono ?_; rintro e w1 ⟨rfl, hw1⟩; have hw2 := hw1.symm; subst hw2)
  go_ret
  exact ⟨rfl, box1 _ _⟩
set_option maxRecDepth 100000 in
set_option maxHeartbeats 1000000 in
theorem take_ok (p fm bm n m : Nat) (g : Int → Option Rc) (f : Int → Int → Option Int) (i : Int) (r : Rc) (w : World) (h : Ix w p fm bm (n + 1) m g f) (hi : W64 i) (hg : g i = some r) :
    Calls Try.prog 18 #[ptr p, .int .i64 i] w fun e w' => e = .returned (.int .i64 0) ∧ Left w p fm bm n m g f i r w' := by
  have HM := hide (made_yes p fm w h.c0)
  have c0 := h.c0
  have hlook := h.feet.look hi
  rw [hg] at hlook
  simp only [Option.getD_some, Option.isSome_some] at hlook
  have B0 := box1 w (.cells #[.int .i64 r.x, .int .i64 r.y, .int .i64 r.a, .int .i64 r.b] 34)
  have h0 := h.kept B0
  obtain ⟨X, hX⟩ : ∃ X, w.alloc (.cells #[.int .i64 r.x, .int .i64 r.y, .int .i64 r.a, .int .i64 r.b] 34) = X := ⟨_, rfl⟩
  have F0 : Four X w.heap.size r.x r.y r.a r.b := by rw [← hX]; exact cells4 (Below.refl _ _)
  rw [hX] at B0 h0
  obtain ⟨⟨k0, k1, k2, k3⟩, -, -⟩ := id F0
  have HX := hide hX
  have HL := hide (leave_any p fm bm n m g f i r X h0 hi (by rw [hg]; rfl))
  have HB0 := hide B0
  clear hX B0 h0
  go_enter Try.func18, Try.ntmps18
  go_wp2_with (first | rw [HX.out] | (go_at_call 27; refine HM.out.mono ?_; rintro e w1 ⟨rfl, hw1⟩; have hw2 := hw1.symm; subst hw2))
  refine HL.out.mono ?_
  rintro e w2 ⟨rfl, h2, t2⟩
  have H2 := hide h2
  have T2 := hide ((Turns.of_below (S := fun k => k = fm ∨ k = bm) HB0.out).trans (t2.mono (fun k _ e => .inl e)))
  clear h2 t2
  go_wp2_with fail
  go_ret
  exact ⟨rfl, H2.out, T2.out⟩
set_option maxRecDepth 100000 in
set_option maxHeartbeats 2000000 in
theorem put_may (p fm bm n m : Nat) (g : Int → Option Rc) (f : Int → Int → Option Int) (i x y a b : Int) (w : World) (h : Ix w p fm bm n m g f) (hm : may x y a b = false) :
    Calls Try.prog 19 #[ptr p, .int .i64 i, rct x y a b] w fun e w' => e = .returned (.int .i64 1) ∧ Below w.heap.size w w' := by
  obtain ⟨hpf, hpb⟩ := h.apart
  obtain ⟨X, hX⟩ : ∃ X, w.alloc (.cells #[.int .i64 x, .int .i64 y, .int .i64 a, .int .i64 b] 34) = X := ⟨_, rfl⟩
  have B0 : Below w.heap.size w X := by rw [← hX]; exact box1 _ _
  have F0 : Four X w.heap.size x y a b := by rw [← hX]; exact cells4 (Below.refl _ _)
  have h0 := h.kept B0
  have HM := hide (made_yes p fm X h0.c0)
  obtain ⟨⟨k0, k1, k2, k3⟩, -, z0⟩ := id F0
  have HX := hide hX
  clear hX
  go_enter Try.func19, Try.ntmps19
  go_wp2_with (first | rw [HX.out] | (go_at_call 27; refine HM.out.mono ?_; rintro e w1 ⟨rfl, hw1⟩; have hw2 := hw1.symm; subst hw2))
  refine (may_is X hm).mono ?_
  rintro e w1 ⟨rfl, hb1⟩
  clear k0 k1 k2 k3 HM
  have B1 := bt B0 hb1
  have F1 := F0.kept hb1
  have h1 := h0.kept hb1
  obtain ⟨⟨k0, k1, k2, k3⟩, -, z1⟩ := id F1
  go_wp2_with fail
  go_ret
  exact ⟨rfl, B1⟩
set_option maxRecDepth 100000 in
set_option maxHeartbeats 2000000 in
theorem put_big (p fm bm n m : Nat) (g : Int → Option Rc) (f : Int → Int → Option Int) (i x y a b : Int) (w : World) (h : Ix w p fm bm n m g f) (hm : may x y a b = true) (hs : sm a b = false) :
    Calls Try.prog 19 #[ptr p, .int .i64 i, rct x y a b] w fun e w' => e = .returned (.int .i64 1) ∧ Below w.heap.size w w' := by
  obtain ⟨hpf, hpb⟩ := h.apart
  obtain ⟨X, hX⟩ : ∃ X, w.alloc (.cells #[.int .i64 x, .int .i64 y, .int .i64 a, .int .i64 b] 34) = X := ⟨_, rfl⟩
  have B0 : Below w.heap.size w X := by rw [← hX]; exact box1 _ _
  have F0 : Four X w.heap.size x y a b := by rw [← hX]; exact cells4 (Below.refl _ _)
  have h0 := h.kept B0
  have HM := hide (made_yes p fm X h0.c0)
  obtain ⟨⟨k0, k1, k2, k3⟩, -, z0⟩ := id F0
  have HX := hide hX
  clear hX
  go_enter Try.func19, Try.ntmps19
  go_wp2_with (first | rw [HX.out] | (go_at_call 27; refine HM.out.mono ?_; rintro e w1 ⟨rfl, hw1⟩; have hw2 := hw1.symm; subst hw2))
  refine (may_is X hm).mono ?_
  rintro e w1 ⟨rfl, hb1⟩
  clear k0 k1 k2 k3 HM
  have B1 := bt B0 hb1
  have F1 := F0.kept hb1
  have h1 := h0.kept hb1
  obtain ⟨⟨k0, k1, k2, k3⟩, -, z1⟩ := id F1
  go_wp2_with fail
  refine (small_is w1 hs).mono ?_
  rintro e w2 ⟨rfl, hb2⟩
  have B2 := bt B1 hb2
  go_wp2_with fail
  go_ret
  exact ⟨rfl, B2⟩
set_option maxRecDepth 100000 in
set_option maxHeartbeats 2000000 in
theorem put_same (p fm bm n m : Nat) (g : Int → Option Rc) (f : Int → Int → Option Int) (i x y a b : Int) (w : World) (h : Ix w p fm bm n m g f) (hi : W64 i) (hm : may x y a b = true) (hs : sm a b = true) {r : Rc} (hg : g i = some r) :
    Calls Try.prog 19 #[ptr p, .int .i64 i, rct x y a b] w fun e w' => e = .returned (.int .i64 8) ∧ Below w.heap.size w w' := by
  obtain ⟨hpf, hpb⟩ := h.apart
  obtain ⟨X, hX⟩ : ∃ X, w.alloc (.cells #[.int .i64 x, .int .i64 y, .int .i64 a, .int .i64 b] 34) = X := ⟨_, rfl⟩
  have B0 : Below w.heap.size w X := by rw [← hX]; exact box1 _ _
  have F0 : Four X w.heap.size x y a b := by rw [← hX]; exact cells4 (Below.refl _ _)
  have h0 := h.kept B0
  have HM := hide (made_yes p fm X h0.c0)
  obtain ⟨⟨k0, k1, k2, k3⟩, -, z0⟩ := id F0
  have HX := hide hX
  clear hX
  go_enter Try.func19, Try.ntmps19
  go_wp2_with (first | rw [HX.out] | (go_at_call 27; refine HM.out.mono ?_; rintro e w1 ⟨rfl, hw1⟩; have hw2 := hw1.symm; subst hw2))
  refine (may_is X hm).mono ?_
  rintro e w1 ⟨rfl, hb1⟩
  clear k0 k1 k2 k3 HM
  have B1 := bt B0 hb1
  have F1 := F0.kept hb1
  have h1 := h0.kept hb1
  obtain ⟨⟨k0, k1, k2, k3⟩, -, z1⟩ := id F1
  go_wp2_with fail
  refine (small_is w1 hs).mono ?_
  rintro e w2 ⟨rfl, hb2⟩
  clear k0 k1 k2 k3
  have B2 := bt B1 hb2
  have F2 := F1.kept hb2
  have h2 := h1.kept hb2
  obtain ⟨⟨k0, k1, k2, k3⟩, -, z2⟩ := id F2
  have c0 := h2.c0
  have hlook := h2.feet.look hi
  rw [hg] at hlook
  simp only [Option.getD_some, Option.isSome_some] at hlook
  go_wp2_with fail
  go_ret
  exact ⟨rfl, bt B2 (box1 _ _)⟩
set_option maxRecDepth 100000 in
set_option maxHeartbeats 2000000 in
theorem put_full (p fm bm n m : Nat) (g : Int → Option Rc) (f : Int → Int → Option Int) (i x y a b : Int) (w : World) (h : Ix w p fm bm n m g f) (hi : W64 i) (hm : may x y a b = true) (hs : sm a b = true) (hg : g i = none) (hn : 256 ≤ n) :
    Calls Try.prog 19 #[ptr p, .int .i64 i, rct x y a b] w fun e w' => e = .returned (.int .i64 2) ∧ Below w.heap.size w w' := by
  obtain ⟨hpf, hpb⟩ := h.apart
  obtain ⟨X, hX⟩ : ∃ X, w.alloc (.cells #[.int .i64 x, .int .i64 y, .int .i64 a, .int .i64 b] 34) = X := ⟨_, rfl⟩
  have B0 : Below w.heap.size w X := by rw [← hX]; exact box1 _ _
  have F0 : Four X w.heap.size x y a b := by rw [← hX]; exact cells4 (Below.refl _ _)
  have h0 := h.kept B0
  have HM := hide (made_yes p fm X h0.c0)
  obtain ⟨⟨k0, k1, k2, k3⟩, -, z0⟩ := id F0
  have HX := hide hX
  clear hX
  go_enter Try.func19, Try.ntmps19
  go_wp2_with (first | rw [HX.out] | (go_at_call 27; refine HM.out.mono ?_; rintro e w1 ⟨rfl, hw1⟩; have hw2 := hw1.symm; subst hw2))
  refine (may_is X hm).mono ?_
  rintro e w1 ⟨rfl, hb1⟩
  clear k0 k1 k2 k3 HM
  have B1 := bt B0 hb1
  have F1 := F0.kept hb1
  have h1 := h0.kept hb1
  obtain ⟨⟨k0, k1, k2, k3⟩, -, z1⟩ := id F1
  go_wp2_with fail
  refine (small_is w1 hs).mono ?_
  rintro e w2 ⟨rfl, hb2⟩
  clear k0 k1 k2 k3
  have B2 := bt B1 hb2
  have F2 := F1.kept hb2
  have h2 := h1.kept hb2
  obtain ⟨⟨k0, k1, k2, k3⟩, -, z2⟩ := id F2
  have c0 := h2.c0
  have hlook := h2.feet.look hi
  rw [hg] at hlook
  simp only [Option.getD_none, Option.isSome_none, Rc.no] at hlook
  obtain ⟨Y, hY⟩ : ∃ Y, w2.alloc (.cells #[.int .i64 0, .int .i64 0, .int .i64 0, .int .i64 0] 34) = Y := ⟨_, rfl⟩
  have BY : Below w2.heap.size w2 Y := by rw [← hY]; exact box1 _ _
  have hlen := (h2.kept BY).feet.len
  rw [← hY] at hlen
  have HY := hide hY
  clear hY
  have hp2 := h2.lt
  have hn' : ¬ (n : Int) < 256 := by omega
  have hn2 : (256 : Int) ≤ (n : Nat) := by omega
  go_wp2_with fail
  go_ret
  exact ⟨rfl, bt B2 (by rw [HY.out]; exact BY)⟩
set_option maxRecDepth 100000 in
set_option maxHeartbeats 2000000 in
theorem put_busy (p fm bm n m : Nat) (g : Int → Option Rc) (f : Int → Int → Option Int) (i x y a b : Int) (w : World) (h : Ix w p fm bm n m g f) (hi : W64 i) (hm : may x y a b = true) (hs : sm a b = true) (hg : g i = none) (hn : n < 256) (hf : (onL f (allC x y a b)).all (fun j => decide (j = i)) = false) :
    Calls Try.prog 19 #[ptr p, .int .i64 i, rct x y a b] w fun e w' => e = .returned (.int .i64 6) ∧ Below w.heap.size w w' := by
  obtain ⟨hpf, hpb⟩ := h.apart
  obtain ⟨X, hX⟩ : ∃ X, w.alloc (.cells #[.int .i64 x, .int .i64 y, .int .i64 a, .int .i64 b] 34) = X := ⟨_, rfl⟩
  have B0 : Below w.heap.size w X := by rw [← hX]; exact box1 _ _
  have F0 : Four X w.heap.size x y a b := by rw [← hX]; exact cells4 (Below.refl _ _)
  have h0 := h.kept B0
  have HM := hide (made_yes p fm X h0.c0)
  obtain ⟨⟨k0, k1, k2, k3⟩, -, z0⟩ := id F0
  have HX := hide hX
  clear hX
  go_enter Try.func19, Try.ntmps19
  go_wp2_with (first | rw [HX.out] | (go_at_call 27; refine HM.out.mono ?_; rintro e w1 ⟨rfl, hw1⟩; have hw2 := hw1.symm; subst hw2))
  refine (may_is X hm).mono ?_
  rintro e w1 ⟨rfl, hb1⟩
  clear k0 k1 k2 k3 HM
  have B1 := bt B0 hb1
  have F1 := F0.kept hb1
  have h1 := h0.kept hb1
  obtain ⟨⟨k0, k1, k2, k3⟩, -, z1⟩ := id F1
  go_wp2_with fail
  refine (small_is w1 hs).mono ?_
  rintro e w2 ⟨rfl, hb2⟩
  clear k0 k1 k2 k3
  have B2 := bt B1 hb2
  have F2 := F1.kept hb2
  have h2 := h1.kept hb2
  obtain ⟨⟨k0, k1, k2, k3⟩, -, z2⟩ := id F2
  have c0 := h2.c0
  have hlook := h2.feet.look hi
  rw [hg] at hlook
  simp only [Option.getD_none, Option.isSome_none, Rc.no] at hlook
  obtain ⟨Y, hY⟩ : ∃ Y, w2.alloc (.cells #[.int .i64 0, .int .i64 0, .int .i64 0, .int .i64 0] 34) = Y := ⟨_, rfl⟩
  have BY : Below w2.heap.size w2 Y := by rw [← hY]; exact box1 _ _
  have hlen := (h2.kept BY).feet.len
  rw [← hY] at hlen
  have HY := hide hY
  clear hY
  have hp2 := h2.lt
  have hn' : (n : Int) < 256 := by omega
  go_wp2_with fail
  have hW := h2.kept BY
  rw [HY.out]
  refine (free_is Y hW hm hs hf).mono ?_
  rintro e w3 ⟨rfl, hb3⟩
  have B3 := bt (bt B2 BY) hb3
  go_wp2_with fail
  go_ret
  exact ⟨rfl, B3⟩
set_option maxRecDepth 100000 in
set_option maxHeartbeats 1000000 in
theorem find_is (p fm bm n m : Nat) (g : Int → Option Rc) (f : Int → Int → Option Int) (i : Int) (w : World) (h : Ix w p fm bm n m g f) (hi : W64 i) :
    Calls Try.prog 13 #[ptr p, .int .i64 i] w fun e w' => e = .returned (.tuple #[((g i).getD Rc.no).v, .bool (g i).isSome]) ∧ Below w.heap.size w w' := by
  have B0 := box1 w (.cells #[.int .i64 0, .int .i64 0, .int .i64 0, .int .i64 0] 34)
  have h0 := h.kept B0
  have F0 : Four (w.alloc (.cells #[.int .i64 0, .int .i64 0, .int .i64 0, .int .i64 0] 34)) w.heap.size 0 0 0 0 := cells4 (Below.refl _ _)
  obtain ⟨X, hX⟩ : ∃ X, w.alloc (.cells #[.int .i64 0, .int .i64 0, .int .i64 0, .int .i64 0] 34) = X := ⟨_, rfl⟩
  rw [hX] at B0 h0 F0
  have HM := hide (made_yes p fm X h0.c0)
  have c0 := h0.c0
  have hlook := h0.feet.look hi
  generalize (g i).getD Rc.no = r at hlook
  generalize (g i).isSome = o at hlook
  have B1 := box1 X (.cells #[.int .i64 r.x, .int .i64 r.y, .int .i64 r.a, .int .i64 r.b] 34)
  have F1 := F0.kept B1
  have G1 : Four (X.alloc (.cells #[.int .i64 r.x, .int .i64 r.y, .int .i64 r.a, .int .i64 r.b] 34)) X.heap.size r.x r.y r.a r.b := cells4 (Below.refl _ _)
  obtain ⟨Y, hY⟩ : ∃ Y, X.alloc (.cells #[.int .i64 r.x, .int .i64 r.y, .int .i64 r.a, .int .i64 r.b] 34) = Y := ⟨_, rfl⟩
  rw [hY] at B1 F1 G1
  obtain ⟨⟨k0, k1, k2, k3⟩, ⟨f0, f1, f2, f3⟩, kz⟩ := F1
  obtain ⟨⟨g0, g1, g2, g3⟩, -, -⟩ := G1
  have hne : ¬ X.heap.size = w.heap.size := by have := F0.2.2; omega
  have HX := hide hX
  have HY := hide hY
  have HB0 := hide (bt B0 B1)
  clear hX hY B0 B1 F0 h0
  go_enter Try.func13, Try.ntmps13
  go_wp2_with (first | rw [HX.out] | rw [HY.out] | (go_at_call 27; refine HM.out.mono ?_; rintro e w1 ⟨rfl, hw1⟩; have hw2 := hw1.symm; subst hw2))
  refine bodyPost_ret (v := .tuple #[r.v, .bool o]) (by simp [results, Try.results13, go_sem, k0, k1, k2, k3]) rfl ⟨rfl, ?_⟩
  exact (((HB0.out.setCell (Nat.le_refl _) _).setCell (Nat.le_refl _) _).setCell (Nat.le_refl _) _).setCell (Nat.le_refl _) _
end Go.Proofs.Ytkodeopkgmichaa
