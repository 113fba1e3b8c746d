/-
  Put that is done.
-/
import Derived.Test.YtkodeopkgmichaaStand
namespace Go.Proofs.Ytkodeopkgmichaa
open Go.RowKit Go.Shelf
set_option linter.unusedVariables false
attribute [local go_sem] Oper.semAt_some
theorem free_is {p fm bm n m : Nat} {g : Int → Option Rc} {f : Int → Int → Option Int} {x y a b i : Int} {c : Bool} (w : World) (h : Ix w p fm bm n m g f) (hm : may x y a b = true) (hs : sm a b = true) (hc : (onL f (allC x y a b)).all (fun j => decide (j = i)) = c) :
    Calls Try.prog 22 #[ptr p, rct x y a b, .int .i64 i] w fun e w' => e = .returned (.bool c) ∧ Below w.heap.size w w' := by subst hc; exact free_small p fm bm n m g f x y a b i w h hm hs
set_option maxRecDepth 100000 in
set_option maxHeartbeats 4000000 in
theorem put_ok (p fm bm n m : Nat) (g : Int → Option Rc) (f : Int → Int → Option Int) (i x y a b : Int) (w : World) (h : Ix w p fm bm n m g f) (hi : W64 i) (hn : n < 256) (hmm : m + (allC x y a b).length < maxLen)
    (hm : may x y a b = true) (hs : sm a b = true) (hg : g i = none) (hf : (onL f (allC x y a b)).all (fun j => decide (j = i)) = true) :
    Calls Try.prog 19 #[ptr p, .int .i64 i, rct x y a b] w fun e w' => e = .returned (.int .i64 0) ∧ Ix w' p fm bm (n + 1) (m + (allC x y a b).length) (fun j => if j = i then some ⟨x, y, a, b⟩ else g j) (putAll f (allC x y a b) i) ∧ Turns (fun k => k = fm ∨ k = bm) w w' := by
  obtain ⟨hpf, hpb⟩ := h.apart
  have hfl := h.feet.lt
  have hbl := h.who.lt
  obtain ⟨X, hX⟩ : ∃ X, w.alloc (.cells #[.int .i64 x, .int .i64 y, .int .i64 a, .int .i64 b] 34) = X := ⟨_, rfl⟩
  have B0 : Below w.heap.size w X := by rw [← hX]; exact box1 _ _
  have F0 : Four X w.heap.size x y a b := by rw [← hX]; exact cells4 (Below.refl _ _)
  have h0 := h.kept B0
  have HM := hide (made_yes p fm X h0.c0)
  have HY := hide (may_is X hm)
  obtain ⟨⟨k0, k1, k2, k3⟩, -, z0⟩ := id F0
  go_enter Try.func19, Try.ntmps19
  go_wp2_with (go_at_call 27; refine HM.out.mono ?_; rintro e w1 ⟨rfl, rfl⟩)
  refine HY.out.mono ?_
  rintro e w1 ⟨rfl, hb1⟩
  clear hX k0 k1 k2 k3 HM HY
  have B1 := bt B0 hb1
  have F1 := F0.kept hb1
  have h1 := h0.kept hb1
  obtain ⟨⟨k0, k1, k2, k3⟩, -, z1⟩ := id F1
  go_wp2_with fail
  refine (small_is w1 hs).mono ?_
  rintro e w2 ⟨rfl, hb2⟩
  clear k0 k1 k2 k3
  have B2 := bt B1 hb2
  have F2 := F1.kept hb2
  have h2 := h1.kept hb2
  obtain ⟨⟨k0, k1, k2, k3⟩, -, z2⟩ := id F2
  have c0 := h2.c0
  have hlook := h2.feet.look hi
  rw [hg] at hlook
  simp only [Option.getD_none, Option.isSome_none, Rc.no] at hlook
  obtain ⟨Y, hY⟩ : ∃ Y, w2.alloc (.cells #[.int .i64 0, .int .i64 0, .int .i64 0, .int .i64 0] 34) = Y := ⟨_, rfl⟩
  have BY : Below w2.heap.size w2 Y := by rw [← hY]; exact box1 _ _
  have hlen := (h2.kept BY).feet.len
  rw [← hY] at hlen
  have HY := hide hY
  clear hY
  have hn' : (n : Int) < 256 := by omega
  have hp2 := h2.lt
  go_wp2_with fail
  have BW := bt B2 BY
  have FW := F2.kept BY
  have hW := h2.kept BY
  have hY := HY.out
  rw [hY]
  clear hY HY hlen
  refine (free_is Y hW hm hs hf).mono ?_
  rintro e w3 ⟨rfl, hb3⟩
  have F3 := FW.kept hb3
  have h3 := hW.kept hb3
  have B3 := bt BW hb3
  clear k0 k1 k2 k3 c0 hlook
  obtain ⟨⟨k0, k1, k2, k3⟩, -, z3⟩ := id F3
  go_wp2_with fail
  refine (stand_any p fm bm n m g f i ⟨x, y, a, b⟩ w3 h3 hi (by unfold maxLen; omega) hmm).mono ?_
  rintro e w4 ⟨rfl, h4, t4⟩
  rw [hg] at h4
  have H4 := hide h4
  have T4 : Turns (fun k => k = fm ∨ k = bm) w w4 := (Turns.of_below B3).trans (t4.mono (fun k _ h => .inl h))
  clear h4 t4
  go_wp2_with fail
  go_ret
  exact ⟨rfl, H4.out, T4⟩
end Go.Proofs.Ytkodeopkgmichaa
