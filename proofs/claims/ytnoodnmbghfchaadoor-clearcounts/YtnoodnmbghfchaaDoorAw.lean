/-
  What phalanxlaw07.awake tells; nobody's field.
-/
import Derived.Test.YtnoodnmbghfchaaDoorFNew
set_option linter.unusedSimpArgs false
namespace Go.Proofs.YtnoodnmbghfchaaDoor
open Go.RowKit Go.Shelf
set_option linter.unusedVariables false
theorem at9a : atL (3 : Nat) (3 : Nat) ((List.range (3 * 3)).map (clrK (carB (3 : Nat) (3 : Nat) tl9 (whoL []) 0) 3)) 0 0 = 3 := by decide
theorem at9b : atL (3 : Nat) (3 : Nat) ((List.range (3 * 3)).map (clrK (carB (3 : Nat) (3 : Nat) tl9 (whoL []) 0) 3)) 2 2 = 1 := by decide
theorem clr_bytes (car : Int → Int → Bool) (wd N : Nat) : ∀ u ∈ (List.range N).map (clrK car wd), u < 256 := by
  intro u hu
  obtain ⟨k, -, rfl⟩ := List.mem_map.1 hu
  have := clr_le car ((k % wd : Nat) : Int) ((k / wd : Nat) : Int)
  unfold clrK
  omega
set_option maxRecDepth 100000 in
set_option maxHeartbeats 4000000 in
theorem awake_any (w : World) (hg : Grnd w) (ho : Offs w) : Calls Tryd.prog 10 #[] w fun e w' => e = .returned (.bool true) ∧ Below w.heap.size w w' := by
  have h9 := make9
  have HG := hide hg
  have HO := hide ho
  clear hg ho
  go_enter Tryd.func10, Tryd.ntmps10
  go_wp2_with fail
  refine (new9 w).mono ?_
  rintro e w1 ⟨q, rfl, hW, hb1⟩
  have HW := hide hW
  have HB1 := hide hb1
  clear hW hb1 h9
  go_wp2_with fail
  refine (fnew_good (wd := 3) (ht := 3) 0 HW.out.1 HW.out.2 (HG.out.kept HB1.out) (HO.out.kept HB1.out) (by decide)).mono ?_
  rintro e w2 ⟨p, b, rfl, ⟨hd, hs⟩, hb2, -⟩
  have HD := hide hd
  have HS := hide hs
  have HB2 := hide (bt HB1.out hb2)
  clear hd hs hb2
  go_wp2_with fail
  refine (fat_is 0 0 at9a HD.out HS.out (by omega) (by simp) (by simp) (clr_bytes _ _ _)).mono ?_
  rintro e w3 ⟨rfl, hb3⟩
  have HB3 := hide hb3
  clear hb3
  go_wp2_with fail
  refine (fat_is 2 2 at9b (HD.out.upto HB3.out) (HS.out.upto HB3.out) (by omega) (by simp) (by simp) (clr_bytes _ _ _)).mono ?_
  rintro e w4 ⟨rfl, hb4⟩
  have HB4 := hide (bt HB2.out (bt HB3.out hb4))
  clear hb4
  go_wp2_with fail
  go_ret
  exact ⟨rfl, HB4.out⟩
set_option maxHeartbeats 1000000 in
theorem fupd_nil (w : World) : Calls Tryd.prog 17 #[.pointer none] w fun e w' => e = .returned (.tuple #[.int .i64 0, .int .i64 1]) ∧ w' = w := by
  go_enter Tryd.func17, Tryd.ntmps17
  go_wp2_with (go_at_call 28; refine (fmade_nil _).mono ?_; rintro e w' ⟨rfl, rfl⟩)
  go_ret2
  exact ⟨rfl, rfl⟩
set_option maxHeartbeats 1000000 in
theorem fupd_zero {p : Nat} (w : World) (h : w.cell? ⟨p, 0, none⟩ = some (.pointer none)) : Calls Tryd.prog 17 #[ptr p] w fun e w' => e = .returned (.tuple #[.int .i64 0, .int .i64 1]) ∧ w' = w := by
  have HF := hide (fmade_zero h)
  clear h
  go_enter Tryd.func17, Tryd.ntmps17
  go_wp2_with (go_at_call 28; refine HF.out.mono ?_; rintro e w' ⟨rfl, rfl⟩)
  go_ret2
  exact ⟨rfl, rfl⟩
set_option maxHeartbeats 1000000 in
theorem fepoch_nil (w : World) : Calls Tryd.prog 13 #[.pointer none] w fun e w' => e = .returned (.int .i64 0) ∧ w' = w := by
  go_enter Tryd.func13, Tryd.ntmps13
  go_wp2_with (go_at_call 28; refine (fmade_nil _).mono ?_; rintro e w' ⟨rfl, rfl⟩)
  go_ret
  exact ⟨rfl, rfl⟩
set_option maxHeartbeats 1000000 in
theorem fepoch_is {w : World} {p q b n : Nat} {cl W H ep : Int} (h : Fd w p q cl W H b n ep) : Calls Tryd.prog 13 #[ptr p] w fun e w' => e = .returned (.int .i64 ep) ∧ w' = w := by
  have HF := hide (fmade_is h)
  have c7 : w.cell? ⟨p, 7, none⟩ = some (.int .i64 ep) := h.c 7
  clear h
  go_enter Tryd.func13, Tryd.ntmps13
  go_wp2_with (go_at_call 28; refine HF.out.mono ?_; rintro e w' ⟨rfl, rfl⟩)
  go_ret
  exact ⟨rfl, rfl⟩
set_option maxHeartbeats 1000000 in
theorem fcount_nil (s : Int) (w : World) : Calls Tryd.prog 19 #[.pointer none, .int .i64 s] w fun e w' => e = .returned (.int .i64 0) ∧ w' = w := by
  go_enter Tryd.func19, Tryd.ntmps19
  go_wp2_with (go_at_call 28; refine (fmade_nil _).mono ?_; rintro e w' ⟨rfl, rfl⟩)
  go_ret
  exact ⟨rfl, rfl⟩
/-- The cells of a Field that nobody made. -/
abbrev zF : Array Value := #[.pointer none, .int .i64 0, .int .i64 0, .int .i64 0, .int .i64 0, .int .i64 0, .slice none 0 0, .int .i64 0]
theorem zF_cell {w w' : World} (h : Below (w.alloc (.cells zF 59)).heap.size (w.alloc (.cells zF 59)) w') : w.heap.size < w'.heap.size ∧ w'.cell? ⟨w.heap.size, 0, none⟩ = some (.pointer none) := by
  have hl : w.heap.size < (w.alloc (.cells zF 59)).heap.size := by simp
  refine ⟨Nat.lt_of_lt_of_le hl h.size, (h.cell (p := ⟨w.heap.size, 0, none⟩) hl).trans ?_⟩
  exact cell_of_row _ _ 0 _ _ _ (heap_alloc_new w _)
set_option maxRecDepth 100000 in
set_option maxHeartbeats 4000000 in
theorem nobody_walk (x y : Int) (w : World) (hg : Grnd w) (ho : Offs w) : Calls Tryd.prog 6 #[cel x y] w fun e w' => e = .returned (.bool true) ∧ Below w.heap.size w w' := by
  have HG := hide hg
  have HO := hide ho
  clear hg ho
  have bX : Two (w.alloc (.cells #[.int .i64 x, .int .i64 y] 27)) w.heap.size x y := Two.newAt rfl
  have B0 : Below w.heap.size w (w.alloc (.cells #[.int .i64 x, .int .i64 y] 27)) := box1 _ _
  generalize hX : w.alloc (.cells #[.int .i64 x, .int .i64 y] 27) = X at bX B0
  go_enter Tryd.func6, Tryd.ntmps6
  go_wp2_with fail
  refine (fupd_nil _).mono ?_
  rintro e w1 ⟨rfl, hw1⟩
  have hw2 := hw1.symm
  subst hw2
  have Z1 := zF_cell (Below.refl _ (X.alloc (.cells zF 59)))
  have B1 : Below X.heap.size X (X.alloc (.cells zF 59)) := box1 _ _
  generalize hY : X.alloc (.cells zF 59) = Y at Z1 B1
  have HU := hide (fupd_zero Y Z1.2)
  go_wp2_with fail
  refine HU.out.mono ?_
  rintro e w2 ⟨rfl, hw2⟩
  have hw3 := hw2.symm
  subst hw3
  have HB := hide (bt B0 B1)
  have b1 := bX.kept B1
  clear hY hX HU Z1
  go_wp2_with fail
  refine (fnew_nil 0 Y).mono ?_
  rintro e w3 ⟨rfl, hb3⟩
  have HB3 := hide (bt HB.out hb3)
  have b3 := b1.kept hb3
  obtain ⟨⟨t0, t1⟩, -, -⟩ := id b3
  clear hb3 hw1
  go_wp2_with fail
  refine (fat_nil _ _ _).mono ?_
  rintro e w4 ⟨rfl, hb4⟩
  have HB4 := hide (bt HB3.out hb4)
  have b4 := b3.kept hb4
  clear t0 t1
  have Z4 := zF_cell (Below.refl _ (w4.alloc (.cells zF 59)))
  have B5 : Below w4.heap.size w4 (w4.alloc (.cells zF 59)) := box1 _ _
  have b5 := b4.kept B5
  generalize hV : w4.alloc (.cells zF 59) = V at Z4 B5 b5
  obtain ⟨⟨t0, t1⟩, -, -⟩ := id b5
  have HA := hide (fat_zero x y V Z4.1 Z4.2)
  clear hb4 Z4
  go_wp2_with (first | (go_at_call 13; refine (fepoch_nil _).mono ?_; rintro e w5 ⟨rfl, rfl⟩) | (go_at_call 19; refine (fcount_nil _ _).mono ?_; rintro e w5 ⟨rfl, rfl⟩))
  refine HA.out.mono ?_
  rintro e w6 ⟨rfl, hb6⟩
  have HB6 := hide (bt (bt HB4.out B5) hb6)
  clear hb6 hV t0 t1 HA
  go_wp2_with fail
  refine (awake_any _ (HG.out.kept HB6.out) (HO.out.kept HB6.out)).mono ?_
  rintro e w7 ⟨rfl, hb7⟩
  have HB7 := hide (bt HB6.out hb7)
  clear hb7
  go_wp2_with fail
  go_ret
  exact ⟨rfl, HB7.out⟩
end Go.Proofs.YtnoodnmbghfchaaDoor
