/-
  What phalanxlaw07.awake tells; nobody's field. phalanxlaw07.right, and phalanxlaw07.ClearOf, walked. What an edit leaves of both worlds. What ClearUpdates keeps while it edits and looks. A field that is made lies in memory of its own. The numbers that were told, in a slice of the law's own; a list of edits. The steps of ClearUpdates' second loop. phalanxlaw07.ClearUpdates where it asks nothing. phalanxlaw07.ClearUpdates, walked.
-/
import Derived.Test.YtnoodnmbghfchaaDoorFNew
import Derived.Test.YtnoodnmbghfchaaDoorUA
import Derived.Test.YtnoodnmbghfchaaDoorGPlace
set_option linter.unusedSimpArgs false
namespace Go.Proofs.YtnoodnmbghfchaaDoor
open Go.RowKit Go.Shelf
set_option linter.unusedVariables false
theorem at9a : atL (3 : Nat) (3 : Nat) ((List.range (3 * 3)).map (clrK (carB (3 : Nat) (3 : Nat) tl9 (whoL []) 0) 3)) 0 0 = 3 := by decide
theorem at9b : atL (3 : Nat) (3 : Nat) ((List.range (3 * 3)).map (clrK (carB (3 : Nat) (3 : Nat) tl9 (whoL []) 0) 3)) 2 2 = 1 := by decide
theorem clr_bytes (car : Int → Int → Bool) (wd N : Nat) : ∀ u ∈ (List.range N).map (clrK car wd), u < 256 := by
  intro u hu
  obtain ⟨k, -, rfl⟩ := List.mem_map.1 hu
  have := clr_le car ((k % wd : Nat) : Int) ((k / wd : Nat) : Int)
  unfold clrK
  omega
set_option maxRecDepth 100000 in
set_option maxHeartbeats 4000000 in
theorem awake_any (w : World) (hg : Grnd w) (ho : Offs w) : Calls Tryd.prog 10 #[] w fun e w' => e = .returned (.bool true) ∧ Below w.heap.size w w' := by
  have h9 := make9
  have HG := hide hg
  have HO := hide ho
  clear hg ho
  go_enter Tryd.func10, Tryd.ntmps10
  go_wp2_with fail
  refine (new9 w).mono ?_
  rintro e w1 ⟨q, rfl, hW, hb1⟩
  have HW := hide hW
  have HB1 := hide hb1
  clear hW hb1 h9
  go_wp2_with fail
  refine (fnew_good (wd := 3) (ht := 3) 0 HW.out.1 HW.out.2 (HG.out.kept HB1.out) (HO.out.kept HB1.out) (by decide)).mono ?_
  rintro e w2 ⟨p, b, rfl, ⟨hd, hs⟩, hb2, -⟩
  have HD := hide hd
  have HS := hide hs
  have HB2 := hide (bt HB1.out hb2)
  clear hd hs hb2
  go_wp2_with fail
  refine (fat_is 0 0 at9a HD.out HS.out (by omega) (by simp) (by simp) (clr_bytes _ _ _)).mono ?_
  rintro e w3 ⟨rfl, hb3⟩
  have HB3 := hide hb3
  clear hb3
  go_wp2_with fail
  refine (fat_is 2 2 at9b (HD.out.upto HB3.out) (HS.out.upto HB3.out) (by omega) (by simp) (by simp) (clr_bytes _ _ _)).mono ?_
  rintro e w4 ⟨rfl, hb4⟩
  have HB4 := hide (bt HB2.out (bt HB3.out hb4))
  clear hb4
  go_wp2_with fail
  go_ret
  exact ⟨rfl, HB4.out⟩
set_option maxHeartbeats 1000000 in
theorem fupd_nil (w : World) : Calls Tryd.prog 17 #[.pointer none] w fun e w' => e = .returned (.tuple #[.int .i64 0, .int .i64 1]) ∧ w' = w := by
  go_enter Tryd.func17, Tryd.ntmps17
  go_wp2_with (go_at_call 28; refine (fmade_nil _).mono ?_; rintro e w' ⟨rfl, rfl⟩)
  go_ret2
  exact ⟨rfl, rfl⟩
set_option maxHeartbeats 1000000 in
theorem fupd_zero {p : Nat} (w : World) (h : w.cell? ⟨p, 0, none⟩ = some (.pointer none)) : Calls Tryd.prog 17 #[ptr p] w fun e w' => e = .returned (.tuple #[.int .i64 0, .int .i64 1]) ∧ w' = w := by
  have HF := hide (fmade_zero h)
  clear h
  go_enter Tryd.func17, Tryd.ntmps17
  go_wp2_with (go_at_call 28; refine HF.out.mono ?_; rintro e w' ⟨rfl, rfl⟩)
  go_ret2
  exact ⟨rfl, rfl⟩
set_option maxHeartbeats 1000000 in
theorem fepoch_nil (w : World) : Calls Tryd.prog 13 #[.pointer none] w fun e w' => e = .returned (.int .i64 0) ∧ w' = w := by
  go_enter Tryd.func13, Tryd.ntmps13
  go_wp2_with (go_at_call 28; refine (fmade_nil _).mono ?_; rintro e w' ⟨rfl, rfl⟩)
  go_ret
  exact ⟨rfl, rfl⟩
set_option maxHeartbeats 1000000 in
theorem fepoch_is {w : World} {p q b n : Nat} {cl W H ep : Int} (h : Fd w p q cl W H b n ep) : Calls Tryd.prog 13 #[ptr p] w fun e w' => e = .returned (.int .i64 ep) ∧ w' = w := by
  have HF := hide (fmade_is h)
  have c7 : w.cell? ⟨p, 7, none⟩ = some (.int .i64 ep) := h.c 7
  clear h
  go_enter Tryd.func13, Tryd.ntmps13
  go_wp2_with (go_at_call 28; refine HF.out.mono ?_; rintro e w' ⟨rfl, rfl⟩)
  go_ret
  exact ⟨rfl, rfl⟩
set_option maxHeartbeats 1000000 in
theorem fcount_nil (s : Int) (w : World) : Calls Tryd.prog 19 #[.pointer none, .int .i64 s] w fun e w' => e = .returned (.int .i64 0) ∧ w' = w := by
  go_enter Tryd.func19, Tryd.ntmps19
  go_wp2_with (go_at_call 28; refine (fmade_nil _).mono ?_; rintro e w' ⟨rfl, rfl⟩)
  go_ret
  exact ⟨rfl, rfl⟩
/-- The cells of a Field that nobody made. -/
abbrev zF : Array Value := #[.pointer none, .int .i64 0, .int .i64 0, .int .i64 0, .int .i64 0, .int .i64 0, .slice none 0 0, .int .i64 0]
theorem zF_cell {w w' : World} (h : Below (w.alloc (.cells zF 59)).heap.size (w.alloc (.cells zF 59)) w') : w.heap.size < w'.heap.size ∧ w'.cell? ⟨w.heap.size, 0, none⟩ = some (.pointer none) := by
  have hl : w.heap.size < (w.alloc (.cells zF 59)).heap.size := by simp
  refine ⟨Nat.lt_of_lt_of_le hl h.size, (h.cell (p := ⟨w.heap.size, 0, none⟩) hl).trans ?_⟩
  exact cell_of_row _ _ 0 _ _ _ (heap_alloc_new w _)
set_option maxRecDepth 100000 in
set_option maxHeartbeats 4000000 in
theorem nobody_walk (x y : Int) (w : World) (hg : Grnd w) (ho : Offs w) : Calls Tryd.prog 6 #[cel x y] w fun e w' => e = .returned (.bool true) ∧ Below w.heap.size w w' := by
  have HG := hide hg
  have HO := hide ho
  clear hg ho
  have bX : Two (w.alloc (.cells #[.int .i64 x, .int .i64 y] 27)) w.heap.size x y := Two.newAt rfl
  have B0 : Below w.heap.size w (w.alloc (.cells #[.int .i64 x, .int .i64 y] 27)) := box1 _ _
  generalize hX : w.alloc (.cells #[.int .i64 x, .int .i64 y] 27) = X at bX B0
  go_enter Tryd.func6, Tryd.ntmps6
  go_wp2_with fail
  refine (fupd_nil _).mono ?_
  rintro e w1 ⟨rfl, hw1⟩
  have hw2 := hw1.symm
  subst hw2
  have Z1 := zF_cell (Below.refl _ (X.alloc (.cells zF 59)))
  have B1 : Below X.heap.size X (X.alloc (.cells zF 59)) := box1 _ _
  generalize hY : X.alloc (.cells zF 59) = Y at Z1 B1
  have HU := hide (fupd_zero Y Z1.2)
  go_wp2_with fail
  refine HU.out.mono ?_
  rintro e w2 ⟨rfl, hw2⟩
  have hw3 := hw2.symm
  subst hw3
  have HB := hide (bt B0 B1)
  have b1 := bX.kept B1
  clear hY hX HU Z1
  go_wp2_with fail
  refine (fnew_nil 0 Y).mono ?_
  rintro e w3 ⟨rfl, hb3⟩
  have HB3 := hide (bt HB.out hb3)
  have b3 := b1.kept hb3
  obtain ⟨⟨t0, t1⟩, -, -⟩ := id b3
  clear hb3 hw1
  go_wp2_with fail
  refine (fat_nil _ _ _).mono ?_
  rintro e w4 ⟨rfl, hb4⟩
  have HB4 := hide (bt HB3.out hb4)
  have b4 := b3.kept hb4
  clear t0 t1
  have Z4 := zF_cell (Below.refl _ (w4.alloc (.cells zF 59)))
  have B5 : Below w4.heap.size w4 (w4.alloc (.cells zF 59)) := box1 _ _
  have b5 := b4.kept B5
  generalize hV : w4.alloc (.cells zF 59) = V at Z4 B5 b5
  obtain ⟨⟨t0, t1⟩, -, -⟩ := id b5
  have HA := hide (fat_zero x y V Z4.1 Z4.2)
  clear hb4 Z4
  go_wp2_with (first | (go_at_call 13; refine (fepoch_nil _).mono ?_; rintro e w5 ⟨rfl, rfl⟩) | (go_at_call 19; refine (fcount_nil _ _).mono ?_; rintro e w5 ⟨rfl, rfl⟩))
  refine HA.out.mono ?_
  rintro e w6 ⟨rfl, hb6⟩
  have HB6 := hide (bt (bt HB4.out B5) hb6)
  clear hb6 hV t0 t1 HA
  go_wp2_with fail
  refine (awake_any _ (HG.out.kept HB6.out) (HO.out.kept HB6.out)).mono ?_
  rintro e w7 ⟨rfl, hb7⟩
  have HB7 := hide (bt HB6.out hb7)
  clear hb7
  go_wp2_with fail
  go_ret
  exact ⟨rfl, HB7.out⟩
end Go.Proofs.YtnoodnmbghfchaaDoor
set_option linter.unusedSimpArgs false
namespace Go.Proofs.YtnoodnmbghfchaaDoor
open Go.RowKit Go.Shelf
set_option linter.unusedVariables false
/-- A field that is right tells each cell's clearance. -/
theorem at_clr {car : Int → Int → Bool} {wd ht : Nat} (hwd : wd ≤ 128 ∧ ht ≤ 128) (hcar : ∀ x y, car x y = true → has 0 0 (wd : Int) (ht : Int) x y = true) (x y : Int) :
    atL wd ht ((List.range (wd * ht)).map (clrK car wd)) x y = clr car x y := by
  unfold atL
  split
  · rename_i hh
    have hin := (has_in hwd).1 hh
    obtain ⟨X, rfl⟩ := Int.eq_ofNat_of_zero_le hin.1.1
    obtain ⟨Y, rfl⟩ := Int.eq_ofNat_of_zero_le hin.2.1
    have hk := idx_lt (w := wd) (h := ht) (x := X) (y := Y) (by omega) (by omega)
    have e1 : (((Y : Int) * (wd : Int)) + (X : Int)).toNat = Y * wd + X := by
      rw [show ((Y : Int) * (wd : Int)) + (X : Int) = ((Y * wd + X : Nat) : Int) by simp, Int.toNat_natCast]
    rw [e1, List.getD_eq_getElem?_getD, List.getElem?_map, List.getElem?_range hk]
    simp only [Option.map_some, Option.getD_some, clrK]
    rw [(idx_mod (w := wd) (x := X) (y := Y) (by omega)).1, (idx_mod (w := wd) (x := X) (y := Y) (by omega)).2]
  · rename_i hh
    refine (clr_no ?_).symm
    rw [Bool.eq_false_iff]
    exact fun hc => hh (hcar _ _ hc)
set_option maxRecDepth 100000 in
set_option maxHeartbeats 8000000 in
theorem right_any {w : World} {p q r b n : Nat} {cl ep : Int} {wd ht : Nat} {tl : List Nat} {L : List Bd} (hd : Fd w p q cl wd ht b n ep) (hs : Szs w b ((List.range (wd * ht)).map (clrK (carB wd ht tl (whoF L) cl) wd))) (hwd : (1 ≤ wd ∧ wd ≤ 128) ∧ 1 ≤ ht ∧ ht ≤ 128) (hn : n = wd * ht) (hR : Rl w r wd ht tl L) :
    Calls Tryd.prog 11 #[ptr p, ptr r, .int .i64 cl] w fun e w' => e = .returned (.bool true) ∧ Below w.heap.size w w' := by
  have HAt : Hid (∀ wx, Below w.heap.size w wx → ∀ x y, Calls Tryd.prog 15 #[ptr p, cel x y] wx fun e w' => e = .returned (.int .i64 (clr (carB wd ht tl (whoF L) cl) x y : Nat)) ∧ Below wx.heap.size wx w') := hide fun wx hx x y =>
    fat_is x y (at_clr ⟨hwd.1.2, hwd.2.2⟩ (fun x y h => car_has h) x y) (hd.upto hx) (hs.upto hx) ⟨hwd.1.2, hwd.2.2⟩ (by simp) (by simp [hn]) (clr_bytes _ _ _)
  have HCl : Hid (∀ wx, Below w.heap.size w wx → ∀ x y, Calls Tryd.prog 12 #[ptr r, .int .i64 cl, cel x y] wx fun e w' => e = .returned (.int .i64 (clr (carB wd ht tl (whoF L) cl) x y : Nat)) ∧ Below wx.heap.size wx w') := hide fun wx hx x y => refclear_any cl x y (hR.kept hx)
  have HA := hide (refall_is hR)
  have hwI : (1 : Int) ≤ (wd : Nat) ∧ ((wd : Nat) : Int) ≤ 128 := by omega
  have hhI : (1 : Int) ≤ (ht : Nat) ∧ ((ht : Nat) : Int) ≤ 128 := by omega
  clear hd hs hR
  go_enter Tryd.func11, Tryd.ntmps11
  go_wp2_with fail
  refine HA.out.mono ?_
  rintro e w1 ⟨rfl, hb1⟩
  have FX : Four (w1.alloc (.cells #[.int .i64 0, .int .i64 0, .int .i64 wd, .int .i64 ht] 45)) w1.heap.size 0 0 wd ht := cells4 (Below.refl _ _)
  have BX : Below w.heap.size w (w1.alloc (.cells #[.int .i64 0, .int .i64 0, .int .i64 wd, .int .i64 ht] 45)) := bt hb1 (box1 _ _)
  obtain ⟨X, hX⟩ : ∃ X, w1.alloc (.cells #[.int .i64 0, .int .i64 0, .int .i64 wd, .int .i64 ht] 45) = X := ⟨_, rfl⟩
  rw [hX] at FX BX
  obtain ⟨d0, d1, d2, d3⟩ := FX.lat
  clear HA hb1
  go_wp2_with fail
  go_loopw [8] (fun d wr => ∃ j : Nat, j ≤ ht + 2 ∧ d = .int .i64 ((j : Int) - 1) ∧ ∃ m : Lat X, wr = m.w) (fun d _ => ht + 2 - (intOf d + 1).toNat)
  case atStart => exact ⟨0, by omega, by simp, ⟨X, Below.refl _ _⟩, rfl⟩
  case round =>
    obtain ⟨j, hj, rfl, m, rfl⟩ := hrel
    have n3 := d3 m
    have n2 := d2 m
    clear hX
    obtain ⟨y, hy⟩ : ∃ y : Int, (j : Int) - 1 = y := ⟨_, rfl⟩
    have Hy := hide hy
    have hyr : -1 ≤ y ∧ y ≤ 129 := by omega
    rw [hy]
    by_cases hlt : j < ht + 2
    · have hli : y ≤ (ht : Nat) := by omega
      clear hy
      go_wp2_with fail
      clear n3 n2
      rename Value => o9
      go_loopw [9] (fun d wr => ∃ i : Nat, i ≤ wd + 2 ∧ d = .int .i64 ((i : Int) - 1) ∧ ∃ m : Lat X, wr = m.w) (fun d _ => wd + 2 - (intOf d + 1).toNat)
      case atStart => exact ⟨0, by omega, by simp, m, rfl⟩
      case round =>
        obtain ⟨i, hi, rfl, m3, rfl⟩ := hrel
        have n2 := d2 m3
        obtain ⟨x, hx⟩ : ∃ x : Int, (i : Int) - 1 = x := ⟨_, rfl⟩
        have Hx := hide hx
        have hxr : -1 ≤ x ∧ x ≤ 129 := by omega
        rw [hx]
        by_cases hil : i < wd + 2
        · have hui : x ≤ (wd : Nat) := by omega
          have T3 : Two (m3.w.alloc (.cells #[.int .i64 x, .int .i64 y] 27)) m3.w.heap.size x y := Two.newAt rfl
          have B3 : Below X.heap.size X (m3.w.alloc (.cells #[.int .i64 x, .int .i64 y] 27)) := bt m3.h (box1 _ _)
          obtain ⟨V, hV⟩ : ∃ V, m3.w.alloc (.cells #[.int .i64 x, .int .i64 y] 27) = V := ⟨_, rfl⟩
          rw [hV] at T3 B3
          obtain ⟨t0, t1⟩ := T3.lat
          have hne := lat_some V
          obtain ⟨c, hc⟩ : ∃ c, clr (carB wd ht tl (whoF L) cl) x y = c := ⟨_, rfl⟩
          have H1 : Hid (∀ m : Lat V, Calls Tryd.prog 15 #[ptr p, cel x y] m.w fun e w' => e = .returned (.int .i64 (c : Nat)) ∧ Below m.w.heap.size m.w w') := hide fun m => by rw [← hc]; exact HAt.out _ (bt BX (bt B3 m.h)) x y
          have H2 : Hid (∀ m : Lat V, Calls Tryd.prog 12 #[ptr r, .int .i64 cl, cel x y] m.w fun e w' => e = .returned (.int .i64 (c : Nat)) ∧ Below m.w.heap.size m.w w') := hide fun m => by rw [← hc]; exact HCl.out _ (bt BX (bt B3 m.h)) x y
          clear hx hc
          go_wp2_with fail
          clear hV n2
          refine wp_region_lat (by kernel_rfl) (by kernel_rfl) ?_
          repeat (go_big_quiet_step (first | (go_at_call 15; exact calls_lat (H1.out _)) | (go_at_call 12; exact calls_lat (H2.out _))))
          refine wpQuiet_nil ?_
          rintro _ ⟨m4, rfl⟩
          go_wp2_with fail
          go_roundw
          case rel => exact ⟨i + 1, by omega, by have := Hx.out; first | go_num | (congr 1; omega), ⟨m4.w, bt B3 m4.h⟩, rfl⟩
          case measure => have := Hx.out; simp [intOf]; omega
        · have hui : ¬ x ≤ (wd : Nat) := by omega
          go_wp2_with fail
          go_roundw
          case rel => exact ⟨j + 1, by omega, by have := Hy.out; first | go_num | (congr 1; omega), m3, rfl⟩
          case measure => have := Hy.out; simp [intOf]; omega
    · have hli : ¬ y ≤ (ht : Nat) := by omega
      go_wp2_with fail
      go_ret
      exact ⟨rfl, bt BX m.h⟩
end Go.Proofs.YtnoodnmbghfchaaDoor
set_option linter.unusedSimpArgs false
namespace Go.Proofs.YtnoodnmbghfchaaDoor
open Go.RowKit
set_option linter.unusedVariables false
/-- The blocks that an edit may turn. -/
def TT (q r bm : Nat) (bv ev rb re : Value) (k : Nat) : Prop := (k = q ∨ k = bm ∨ bv.ownBlock = some k ∨ ev.ownBlock = some k) ∨ (k = r ∨ rb.ownBlock = some k ∨ re.ownBlock = some k)
section
variable {N : Nat} {w w' : World} {p r : Nat} {W H : Int} {tl : List Nat} {l : List Bd} {es : List Rc} {bm n : Nat} {tv bv ev rt rb re : Value}
theorem row_type {e : TypeId} {size m : Nat} {v : Value} {xs : List Value} {k : Nat} {cs : Array Value} {t : TypeId} (h : w.ownsRow 0 e size v m xs) (hv : v.ownBlock = some k) (hk : w.heap[k]? = some (.cells cs t (0, 0))) : t = e := by
  rcases h.2 with ⟨rfl, _⟩ | ⟨g, cap, cur, rfl, hb, hg, _⟩
  · simp [Value.ownBlock] at hv
  · simp [Value.ownBlock] at hv
    subst hv
    rw [hk] at hg
    simp at hg
    exact hg.2
/-- What is of another kind is none of them. -/
theorem BoAt.other (h : BoAt N w p r W H tl l es bm n tv bv ev rt rb re) {k : Nat} {cs : Array Value} {t : TypeId} (hk : w.heap[k]? = some (.cells cs t (0, 0))) (h1 : t ≠ 85) (h2 : t ≠ 75) (h3 : t ≠ 50) (h4 : t ≠ 45 ∨ (ev.ownBlock ≠ some k ∧ re.ownBlock ≠ some k)) : ¬ TT p r bm bv ev rb re k := by
  rintro ((q | q | q | q) | (q | q | q))
  · subst q
    have a : w.heap[k]? = _ := h.d
    rw [hk] at a
    simp at a
    exact h1 a.2
  · subst q
    obtain ⟨D, ⟨es', clock, a, -⟩, -⟩ := h.f
    rw [hk] at a
    cases a
  · exact h3 (row_type h.b q hk)
  · rcases h4 with h4 | h4
    · exact h4 (row_type h.e q hk)
    · exact h4.1 q
  · subst q
    have a : w.heap[k]? = _ := h.d'
    rw [hk] at a
    simp at a
    exact h2 a.2
  · exact h3 (row_type h.b' q hk)
  · rcases h4 with h4 | h4
    · exact h4 (row_type h.e' q hk)
    · exact h4.2 q
/-- What is known of the buildings and the edits behind an edit. -/
def EdOf (W H : Int) (l : List Bd) (es : List Rc) (l' : List Bd) (es' : List Rc) : Prop :=
  (es' = es ∧ l' = l) ∨ ∃ rc, es' = es ++ [rc] ∧ wi rc.x rc.y rc.a rc.b 0 0 W H = true ∧ ∀ x y : Int, ¬ (rc.x ≤ x ∧ x ≤ rc.x + rc.a - 1 ∧ rc.y ≤ y ∧ y ≤ rc.y + rc.b - 1) → whoF l x y = whoF l' x y
def Done (N : Nat) (w : World) (p r : Nat) (W H : Int) (tl : List Nat) (l : List Bd) (es : List Rc) (bm n : Nat) (tv bv ev rt rb re : Value) (w' : World) : Prop :=
  ∃ l' es' n' bv' ev' rb' re', (BoAt N w' p r W H tl l' es' bm n' tv bv' ev' rt rb' re' ∧ Fine W H l' ∧ n' ≤ n + 64 ∧ es'.length ≤ es.length + 1) ∧ EdOf W H l es l' es' ∧ Turns (TT p r bm bv ev rb re) w w' ∧
    (∀ k, ev'.ownBlock = some k → ev.ownBlock = some k ∨ w.heap.size ≤ k) ∧ (∀ k, re'.ownBlock = some k → re.ownBlock = some k ∨ w.heap.size ≤ k)
theorem mb_wi {t : Bd} (h : mb W H t = true) : wi t.foot.x t.foot.y t.foot.a t.foot.b 0 0 W H = true := by
  simp only [mb, Bool.and_eq_true] at h
  exact h.2.2.2.2
theorem tt1 {k : Nat} (h : k = p ∨ k = bm ∨ bv.ownBlock = some k ∨ ev.ownBlock = some k) : TT p r bm bv ev rb re k := .inl h
theorem tt2 {k : Nat} (h : k = r ∨ rb.ownBlock = some k ∨ re.ownBlock = some k) : TT p r bm bv ev rb re k := .inr h
theorem does_any (z : Bool) (t : Bd) (h : BoAt N w p r W H tl l es bm n tv bv ev rt rb re) (hF : Fine W H l) (hN : N ≤ w.heap.size) (hn : n + 64 ≤ maxLen) (hes : (es.length + 1) * 32 ≤ 140737488355328) :
    Calls Tryd.prog 16 #[ptr p, ptr r, edV z t] w fun e w' => (∃ v, e = .returned v) ∧ Done N w p r W H tl l es bm n tv bv ev rt rb re w' := by
  have noEB : ∀ {X : World} {z : Bool}, BoAt N X p r W H tl l es bm n tv bv ev rt rb re → EB X w.heap.size z t → ¬ TT p r bm bv ev rb re w.heap.size := fun hX hE => hX.other hE (by decide) (by decide) (by decide) (.inl (by decide))
  cases z
  · have hcr := code_ref W H l t
    refine does_place w p r t _ (fun X B0 P0 => ?_)
    have HX := h.below B0
    have zX := B0.size
    by_cases hc : refcode W H l t = 0
    · have hc' : code W H (whoF l) l t = 0 := hcr.trans hc
      refine (place_yes p bm n W H tv bv ev (whoF l) l es t X HX.d HX.f HX.b HX.e hF.sorted hF.len hn hes hc').mono ?_
      rintro e w1 ⟨rfl, bv', ev', q1, q2, q3, q4, q5, q6, q7⟩
      rw [who_ins (refcode_zero hc).2.2.2] at q3
      refine ⟨⟨_, rfl⟩, q5.same (fun hq => noEB HX P0 (tt1 hq)) P0, ?_⟩
      have doc := HX.doc q5
      have zx := q5.size
      refine (refplacew_yes r W H rt rb re l es t w1 doc.1 doc.2.2.1 doc.2.2.2 hF.sorted hF.len hes hc).mono ?_
      rintro e w3 ⟨rfl, rb', re', u1, u2, u3, u4, u5, u6⟩
      have two := HX.two (by omega) q1 q2 q3 q4 q5 q6 q7 u1 u2 u3 u4 u5 u6
      refine ⟨⟨_, rfl⟩, ins l t, es ++ [t.foot], n + 64, bv', ev', rb', re', ⟨two.1, hF.ins hc, by omega, by simp⟩, .inr ⟨t.foot, rfl, mb_wi (refcode_zero hc).1, fun x y hxy => apt_ins (refcode_zero hc).2.2.2 x y hxy⟩, ?_, fun k e => (q7 k e).imp id (fun h => by omega), fun k e => (u6 k e).imp id (fun h => by omega)⟩
      exact ((Turns.of_below B0).trans (q5.mono (fun k _ hq => .inl (tt1 hq)))).trans (u4.mono (fun k _ hq => .inl (tt2 hq)))
    · have hc' : code W H (whoF l) l t ≠ 0 := fun e => hc (hcr.symm.trans e)
      refine (place_no p bm n W H tv bv ev (whoF l) l t X HX.d HX.f HX.b hF.sorted hF.len hc').mono ?_
      rintro e w1 ⟨rfl, hb1⟩
      refine ⟨⟨_, rfl⟩, P0.kept hb1, ?_⟩
      have H1 := HX.below hb1
      refine (refplacew_no r W H rt rb re l t w1 H1.d' H1.b' hF.sorted hF.len hc).mono ?_
      rintro e w3 ⟨rfl, hb3⟩
      exact ⟨⟨_, rfl⟩, l, es, n, bv, ev, rb, re, ⟨H1.below hb3, hF, by omega, by omega⟩, .inl ⟨rfl, rfl⟩, Turns.of_below (bt B0 (bt hb1 hb3)), fun k e => .inl e, fun k e => .inl e⟩
  · refine does_raze w p r t _ (fun X B0 P0 => ?_)
    have HX := h.below B0
    have zX := B0.size
    cases hf : found l t.id
    · refine (raze_no p bm W H tv bv ev l t.id X HX.d HX.b hF.sorted hF.len hf).mono ?_
      rintro e w1 ⟨rfl, hb1⟩
      refine ⟨⟨_, _, _, _, _, rfl⟩, P0.kept hb1, ?_⟩
      have H1 := HX.below hb1
      refine (refraze_no r W H rt rb re l t.id w1 H1.d' H1.b' hF.sorted hF.len hf).mono ?_
      rintro e w3 ⟨rfl, hb3⟩
      exact ⟨⟨_, _, _, _, _, rfl⟩, l, es, n, bv, ev, rb, re, ⟨H1.below hb3, hF, by omega, by omega⟩, .inl ⟨rfl, rfl⟩, Turns.of_below (bt B0 (bt hb1 hb3)), fun k e => .inl e, fun k e => .inl e⟩
    · obtain ⟨s, hs, -⟩ := (found_iff hF.sorted t.id).1 hf
      refine (raze_yes p bm n W H tv bv ev (whoF l) l es t.id s X HX.d HX.f HX.b HX.e hF.sorted hF.len hes hf hs).mono ?_
      rintro e w1 ⟨rfl, bv', ev', q1, q2, q3, q4, q5, q6, q7⟩
      rw [who_del hs hF.apart] at q3
      refine ⟨⟨_, _, _, _, _, rfl⟩, q5.same (fun hq => noEB HX P0 (tt1 hq)) P0, ?_⟩
      have doc := HX.doc q5
      have zx := q5.size
      refine (refraze_yes r W H rt rb re l es t.id s w1 doc.1 doc.2.2.1 doc.2.2.2 hF.sorted hF.len hes hf hs).mono ?_
      rintro e w3 ⟨rfl, rb', re', u1, u2, u3, u4, u5, u6⟩
      have T2 : Turns (fun k => k = r ∨ rb.ownBlock = some k ∨ re.ownBlock = some k) w1 w3 := u4.mono (fun k _ e => e.imp id Or.inr)
      have two := HX.two (by omega) q1 q2 q3 q4 q5 q6 q7 u1 u2 u3 T2 (fun k e => .inr (u5 k e)) u6
      refine ⟨⟨_, _, _, _, _, rfl⟩, del l (pos l t.id), es ++ [s.foot], n, bv', ev', rb', re', ⟨two.1, hF.del _, by omega, by simp⟩, .inr ⟨s.foot, rfl, mb_wi (hF.all s (List.mem_of_getElem? hs)), fun x y hxy => apt_del hs hF.apart x y hxy⟩, ?_, fun k e => (q7 k e).imp id (fun h => by omega), fun k e => (u6 k e).imp id (fun h => by omega)⟩
      exact ((Turns.of_below B0).trans (q5.mono (fun k _ hq => .inl (tt1 hq)))).trans (T2.mono (fun k _ hq => .inl (tt2 hq)))
end
end Go.Proofs.YtnoodnmbghfchaaDoor
set_option linter.unusedSimpArgs false
namespace Go.Proofs.YtnoodnmbghfchaaDoor
open Go.RowKit
set_option linter.unusedVariables false
/-- What is not a world's: boxes of other kinds, bytes that are no world's tiles. -/
def Oth (w : World) (tv rt : Value) (k : Nat) : Prop :=
  ∃ cs t, w.heap[k]? = some (.cells cs t (0, 0)) ∧ t ≠ 85 ∧ t ≠ 75 ∧ t ≠ 50 ∧ t ≠ 45 ∧ (t = 5 → tv.ownBlock ≠ some k ∧ rt.ownBlock ≠ some k)
section
variable {N : Nat} {w w' : World} {q r : Nat} {W H : Int} {tl : List Nat} {l : List Bd} {es : List Rc} {bm n : Nat} {tv bv ev rt rb re : Value}
theorem BoAt.apart {S : Nat → Prop} (h : BoAt N w q r W H tl l es bm n tv bv ev rt rb re) (T : Turns S w w') (hS : ∀ k, S k → Oth w tv rt k) : BoAt N w' q r W H tl l es bm n tv bv ev rt rb re := by
  have row : ∀ {e : TypeId} {size m : Nat} {v : Value} {xs : List Value}, w.ownsRow 0 e size v m xs → (e = 50 ∨ e = 45) → ∀ k, v.ownBlock = some k → ¬ S k := fun hr he k hv hs => by
    obtain ⟨cs, t, h0, h1, h2, h3, h4, h5⟩ := hS k hs
    have := row_type hr hv h0
    rcases he with he | he
    · exact h3 (this.trans he)
    · exact h4 (this.trans he)
  have hq : ¬ S q := fun hs => by
    obtain ⟨cs, t, h0, h1, h2, h3, h4, h5⟩ := hS q hs
    have a : w.heap[q]? = _ := h.d
    rw [h0] at a
    simp at a
    exact h1 a.2
  have hr : ¬ S r := fun hs => by
    obtain ⟨cs, t, h0, h1, h2, h3, h4, h5⟩ := hS r hs
    have a : w.heap[r]? = _ := h.d'
    rw [h0] at a
    simp at a
    exact h2 a.2
  have hm : ¬ S bm := fun hs => by
    obtain ⟨cs, t, h0, -⟩ := hS bm hs
    obtain ⟨D, ⟨es', clock, a, -⟩, -⟩ := h.f
    rw [h0] at a
    cases a
  have ht : ∀ k, tv.ownBlock = some k → ¬ S k := fun k hv hs => by
    obtain ⟨cs, t, h0, h1, h2, h3, h4, h5⟩ := hS k hs
    exact (h5 (row_type h.t hv h0)).1 hv
  have ht' : ∀ k, rt.ownBlock = some k → ¬ S k := fun k hv hs => by
    obtain ⟨cs, t, h0, h1, h2, h3, h4, h5⟩ := hS k hs
    exact (h5 (row_type h.t' hv h0)).2 hv
  exact { h with d := h.d.kept T hq, t := h.t.kept T ht, b := h.b.kept T (row h.b (.inl rfl)), f := h.f.kept T hm, e := h.e.kept T (row h.e (.inr rfl)), d' := h.d'.kept T hr, t' := h.t'.kept T ht', b' := h.b'.kept T (row h.b' (.inl rfl)), e' := h.e'.kept T (row h.e' (.inr rfl)) }
theorem BoAt.wl (h : BoAt N w q r W H tl l es bm n tv bv ev rt rb re) (hm : mt W H tl = true ∧ ∀ n ∈ tl, n < 256) : Wl w q W H tl (whoF l) := ⟨hm, bm, n, tv, bv, ev, h.d, h.t, h.f⟩
theorem BoAt.rl (h : BoAt N w q r W H tl l es bm n tv bv ev rt rb re) (hm : mt W H tl = true ∧ ∀ n ∈ tl, n < 256) (hl : l.length ≤ 256) : Rl w r W H tl l := ⟨⟨hm, hl⟩, rt, rb, re, h.d', h.t', h.b'⟩
theorem BoAt.ep (h : BoAt N w q r W H tl l es bm n tv bv ev rt rb re) : Ep w q es.length := by
  obtain ⟨a, cap, e, -⟩ := id h.e.rcb
  exact ⟨W, H, tv, bv, bm, a, cap, e ▸ h.d⟩
end
/-- The numbers that were told. -/
def Wz (w : World) (v : Value) (l : List Nat) : Prop := ∃ g cap cur, v = .slice (some ⟨g, 0, none⟩) l.length cap ∧ w.heap[g]? = some (.cells cur 3 (0, 0)) ∧ l.length ≤ cap ∧ cur.size = cap ∧ cur.toList.take l.length = l.map (fun n => Value.int .i64 (n : Nat))
/-- All that is kept: both worlds, the field, what it told when it was last brought up, the box of the whole. -/
structure Us (N : Nat) (w : World) (p q r b A g : Nat) (cl : Int) (wd ht M : Nat) (tl : List Nat) (l0 : List Bd) (e0 : Nat) (l : List Bd) (es : List Rc) (bm n : Nat) (tv bv ev rt rb re : Value) : Prop where
  bo : BoAt N w q r wd ht tl l es bm n tv bv ev rt rb re
  fine : Fine wd ht l
  fd : Fd w p q cl wd ht b M (e0 : Nat)
  sz : Szs w b ((List.range M).map (clrK (carB wd ht tl (whoF l0) cl) wd))
  al : w.heap[A]? = some (.cells #[.int .i64 0, .int .i64 0, .int .i64 wd, .int .i64 ht] 45 (0, 0))
  nb : tv.ownBlock ≠ some b ∧ rt.ownBlock ≠ some b
  na : ev.ownBlock ≠ some A ∧ re.ownBlock ≠ some A
  le : e0 ≤ es.length
  ap : Apt (whoF l0) (whoF l) (es.drop e0)
  wi : ∀ r ∈ es.drop e0, wi r.x r.y r.a r.b 0 0 wd ht = true
  ng : ∃ cur : Array Value, w.heap[g]? = some (.cells cur 3 (0, 0))
  nN : N ≤ p ∧ N ≤ b ∧ N ≤ g ∧ N ≤ w.heap.size
section
variable {N : Nat} {w w' : World} {p q r b A g : Nat} {cl : Int} {wd ht M : Nat} {tl : List Nat} {l0 l : List Bd} {e0 : Nat} {es : List Rc} {bm n : Nat} {tv bv ev rt rb re : Value}
theorem Us.below (h : Us N w p q r b A g cl wd ht M tl l0 e0 l es bm n tv bv ev rt rb re) (hb : Below w.heap.size w w') : Us N w' p q r b A g cl wd ht M tl l0 e0 l es bm n tv bv ev rt rb re := by
  obtain ⟨cur, hg⟩ := h.ng
  have z := hb.size
  exact { h with bo := h.bo.below hb, fd := h.fd.upto hb, sz := h.sz.upto hb, al := (hb.block A (Array.getElem?_eq_some_iff.1 h.al).1).trans h.al, ng := ⟨cur, (hb.block g (Array.getElem?_eq_some_iff.1 hg).1).trans hg⟩, nN := ⟨h.nN.1, h.nN.2.1, h.nN.2.2.1, by have := h.nN.2.2.2; omega⟩ }
/-- Behind an edit. -/
theorem Us.does (h : Us N w p q r b A g cl wd ht M tl l0 e0 l es bm n tv bv ev rt rb re) (hD : Done N w q r wd ht tl l es bm n tv bv ev rt rb re w') :
    ∃ l' es' n' bv' ev' rb' re', Us N w' p q r b A g cl wd ht M tl l0 e0 l' es' bm n' tv bv' ev' rt rb' re' ∧ (n' ≤ n + 64 ∧ es'.length ≤ es.length + 1) ∧ w'.heap[g]? = w.heap[g]? ∧ Turns (TT q r bm bv ev rb re) w w' := by
  obtain ⟨l', es', n', bv', ev', rb', re', ⟨h1, h2, h3, h4⟩, h5, T, h6, h7⟩ := hD
  obtain ⟨cur, hg⟩ := h.ng
  have nfd : ¬ TT q r bm bv ev rb re p := h.bo.other h.fd (by decide) (by decide) (by decide) (.inl (by decide))
  have nsz : ¬ TT q r bm bv ev rb re b := h.bo.other h.sz (by decide) (by decide) (by decide) (.inl (by decide))
  have nal : ¬ TT q r bm bv ev rb re A := h.bo.other h.al (by decide) (by decide) (by decide) (.inr h.na)
  have ng : ¬ TT q r bm bv ev rb re g := h.bo.other hg (by decide) (by decide) (by decide) (.inl (by decide))
  have zg := (Array.getElem?_eq_some_iff.1 hg).1
  have zA := (Array.getElem?_eq_some_iff.1 h.al).1
  have z := T.size
  have hn := h.nN
  refine ⟨l', es', n', bv', ev', rb', re', ⟨h1, h2, h.fd.kept T nfd, h.sz.kept T nsz, T.same nal h.al, h.nb, ⟨fun e => ?_, fun e => ?_⟩, ?_, ?_, ?_, ⟨cur, T.same ng hg⟩, ⟨hn.1, hn.2.1, hn.2.2.1, by omega⟩⟩, ⟨h3, h4⟩, T.block g zg ng, T⟩
  · rcases h6 A e with e | e
    · exact h.na.1 e
    · omega
  · rcases h7 A e with e | e
    · exact h.na.2 e
    · omega
  · have := h.le
    rcases h5 with ⟨rfl, -⟩ | ⟨rc, rfl, -⟩
    · exact this
    · rw [List.length_append]; omega
  · rcases h5 with ⟨rfl, rfl⟩ | ⟨rc, rfl, -, hx⟩
    · exact h.ap
    · rw [List.drop_append_of_le_length h.le]
      exact h.ap.snoc hx
  · rcases h5 with ⟨rfl, rfl⟩ | ⟨rc, rfl, hw, hx⟩
    · exact h.wi
    · rw [List.drop_append_of_le_length h.le]
      intro x hx
      rcases List.mem_append.1 hx with hx | hx
      · exact h.wi x hx
      · obtain rfl := List.mem_singleton.1 hx
        exact hw
theorem Us.oth_p (h : Us N w p q r b A g cl wd ht M tl l0 e0 l es bm n tv bv ev rt rb re) : Oth w tv rt p := ⟨_, _, h.fd, by decide, by decide, by decide, by decide, fun e => by cases e⟩
theorem Us.oth_b (h : Us N w p q r b A g cl wd ht M tl l0 e0 l es bm n tv bv ev rt rb re) : Oth w tv rt b := ⟨_, _, h.sz, by decide, by decide, by decide, by decide, fun e => h.nb⟩
theorem Us.oth_g (h : Us N w p q r b A g cl wd ht M tl l0 e0 l es bm n tv bv ev rt rb re) : Oth w tv rt g := by
  obtain ⟨cur, hg⟩ := h.ng
  exact ⟨_, _, hg, by decide, by decide, by decide, by decide, fun e => by cases e⟩
theorem ne_of_type {k j : Nat} {cs ds : Array Value} {s t : TypeId} (h1 : w.heap[k]? = some (.cells cs s (0, 0))) (h2 : w.heap[j]? = some (.cells ds t (0, 0))) (hst : s ≠ t) : k ≠ j := fun e => by
  subst e
  rw [h1] at h2
  simp at h2
  exact hst h2.2
/-- Behind Update. -/
theorem Us.upd (h : Us N w p q r b A g cl wd ht M tl l0 e0 l es bm n tv bv ev rt rb re) (h1 : Fd w' p q cl wd ht b M (es.length : Nat)) (h2 : Szs w' b ((List.range M).map (clrK (carB wd ht tl (whoF l) cl) wd))) (T : Turns (fun k => k = b ∨ k = p) w w') :
    Us N w' p q r b A g cl wd ht M tl l es.length l es bm n tv bv ev rt rb re ∧ w'.heap[g]? = w.heap[g]? := by
  obtain ⟨cur, hg⟩ := h.ng
  have zg := (Array.getElem?_eq_some_iff.1 hg).1
  have ng : ¬ (g = b ∨ g = p) := by
    rintro (e | e)
    · exact ne_of_type hg h.sz (by decide) e
    · exact ne_of_type hg h.fd (by decide) e
  have nA : ¬ (A = b ∨ A = p) := by
    rintro (e | e)
    · exact ne_of_type h.al h.sz (by decide) e
    · exact ne_of_type h.al h.fd (by decide) e
  have z := T.size
  have hn := h.nN
  refine ⟨⟨h.bo.apart T (fun k hk => ?_), h.fine, h1, h2, T.same nA h.al, h.nb, h.na, Nat.le_refl _, ?_, ?_, ⟨cur, T.same ng hg⟩, ⟨hn.1, hn.2.1, hn.2.2.1, by omega⟩⟩, T.block g zg ng⟩
  · rcases hk with rfl | rfl
    · exact h.oth_b
    · exact h.oth_p
  · rw [List.drop_length]; exact Apt.refl _
  · rw [List.drop_length]; intro x hx; cases hx
/-- Behind a store into what was told. -/
theorem Us.told (h : Us N w p q r b A g cl wd ht M tl l0 e0 l es bm n tv bv ev rt rb re) (j : Nat) (v : Value) : Us N (w.setCell ⟨g, j, none⟩ v) p q r b A g cl wd ht M tl l0 e0 l es bm n tv bv ev rt rb re := by
  obtain ⟨cur, hg⟩ := h.ng
  have T : Turns (fun k => k = g) w (w.setCell ⟨g, j, none⟩ v) := Turns.set (S := fun k => k = g) _ (p := ⟨g, j, none⟩) rfl v
  have z := T.size
  have hn := h.nN
  refine { h with bo := h.bo.apart T (fun k hk => hk ▸ h.oth_g), fd := h.fd.kept T (fun e => ne_of_type hg h.fd (by decide) e.symm), sz := h.sz.kept T (fun e => ne_of_type hg h.sz (by decide) e.symm), al := T.same (fun e => ne_of_type hg h.al (by decide) e.symm) h.al, ng := ?_, nN := ⟨hn.1, hn.2.1, hn.2.2.1, by omega⟩ }
  refine ⟨cur.setIfInBounds j v, ?_⟩
  simp [World.setCell, Array.getElem?_modify, hg]
end
end Go.Proofs.YtnoodnmbghfchaaDoor
set_option linter.unusedSimpArgs false
namespace Go.Proofs.YtnoodnmbghfchaaDoor
open Go.RowKit Go.Shelf
set_option linter.unusedVariables false
set_option maxRecDepth 100000 in
set_option maxHeartbeats 8000000 in
theorem fnew_own {w : World} {q n : Nat} {wd ht : Nat} {tl : List Nat} {f : Int → Int → Option Int} (cl : Int) (hw : Wl w q wd ht tl f) (he : Ep w q n) (hg : Grnd w) (ho : Offs w) (hc : isC cl = true) :
    Calls Tryd.prog 8 #[ptr q, .int .i64 cl] w fun e w' => ∃ p b, e = .returned (.tuple #[ptr p, .int .i64 0]) ∧ (Fd w' p q cl wd ht b (wd * ht) (n : Nat) ∧ Szs w' b ((List.range (wd * ht)).map (clrK (carB wd ht tl f cl) wd))) ∧ Below w.heap.size w w' ∧ w.heap.size ≤ b ∧ w.heap.size ≤ p := by
  obtain ⟨hW, hH⟩ := mt_gs hw.1.1
  simp only [gs, decide_eq_true_eq] at hW hH
  have hwd : (1 ≤ wd ∧ wd ≤ 128) ∧ 1 ≤ ht ∧ ht ≤ 128 := by omega
  have hm : may 0 0 (wd : Int) (ht : Int) = true := by rw [may_iff]; omega
  obtain ⟨N, hN⟩ : ∃ N, N = wd * ht := ⟨_, rfl⟩
  have hN2 : N ≤ 16384 := by have := Nat.mul_le_mul hwd.1.2 hwd.2.2; omega
  have hmul : IntKind.i64.wrap ((wd : Int) * (ht : Int)) = (N : Nat) := by
    rw [show (wd : Int) * (ht : Int) = ((wd * ht : Nat) : Int) by push_cast; rfl, ← hN]
    exact wrap_nat hN2
  have HA := hide (all_is hw)
  have HC := hide hc
  have HE : Hid (∀ wx, Below w.heap.size w wx → Calls Tryd.prog 18 #[ptr q] wx fun e w' => e = .returned (.int .i64 (n : Nat)) ∧ w' = wx) := hide fun wx hx => epoch_is (he.kept hx)
  have HK : Hid (∀ wx, Below w.heap.size w wx → Wl wx q wd ht tl f ∧ Grnd wx ∧ Offs wx) := hide fun wx hx => ⟨hw.kept hx, hg.kept hx, ho.kept hx⟩
  rw [← hN]
  have HN := hide hN
  clear hw hc he hg ho hW hH hN
  go_enter Tryd.func8, Tryd.ntmps8
  go_wp2_with fail
  refine HA.out.mono ?_
  rintro e w1 ⟨rfl, hb1⟩
  go_wp2_with fail
  refine (may_is _ hm).mono ?_
  rintro e w2 ⟨rfl, hb2⟩
  have F2 : Four w2 w1.heap.size 0 0 wd ht := cells4 hb2
  have B2 := bt hb1 (bt (box1 _ _) hb2)
  clear hb2
  go_wp2_with fail
  refine (fclass_is _ HC.out).mono ?_
  rintro e X ⟨rfl, hb3⟩
  have FX := F2.kept hb3
  have BX := bt B2 hb3
  have zX := BX.size
  clear F2 B2 hb3
  go_wp2_with fail
  have HS : Hid (∀ wx, Below X.heap.size X wx → (wx.cell? ⟨w1.heap.size, 0, none⟩ = some (.int .i64 0) ∧ wx.cell? ⟨w1.heap.size, 1, none⟩ = some (.int .i64 0) ∧ wx.cell? ⟨w1.heap.size, 2, none⟩ = some (.int .i64 wd) ∧ wx.cell? ⟨w1.heap.size, 3, none⟩ = some (.int .i64 ht))) := hide fun wx hx => (FX.kept hx).1
  have hmk := make_sizes2 N hN2
  refine Code.wp_mono (Q := Only (fun a' w' => ∃ (p b : Nat) (u18 u19 u20 u21 u22 u23 u24 u25 u26 u27 u28 u29 : Value), ((Fd w' p q cl wd ht b N (n : Nat) ∧ Szs w' b (List.replicate N 0)) ∧ Below X.heap.size X w' ∧ X.heap.size ≤ b ∧ X.heap.size ≤ p) ∧ a' = { tmps := #[ptr q, .int .i64 cl, undef, undef, .pointer none, .int .i64 0, ptr w1.heap.size, ptr p, ptr q, rct 0 0 wd ht, rct 0 0 wd ht, .bool true, .bool false, .bool false, .int .i64 cl, .bool true, .bool false, .bool false, u18, u19, u20, u21, u22, u23, u24, u25, u26, u27, u28, u29, ptr p, undef, undef, undef, undef, undef], defers := [] })) ?rest ?_
  case rest =>
    rintro (_ | _ | _ | _ | _) a' w4 hO
    all_goals first | exact hO.elim | skip
    obtain ⟨p, b, u18, u19, u20, u21, u22, u23, u24, u25, u26, u27, u28, u29, ⟨⟨d4, s4⟩, B4, hb4, hp4⟩, rfl⟩ := hO
    obtain ⟨⟨f0, f1, f2, f3⟩, -, -⟩ := FX.kept B4
    obtain ⟨w5, hw5⟩ : ∃ w5, w4.alloc (.cells #[.int .i64 0, .int .i64 0, .int .i64 wd, .int .i64 ht] 45) = w5 := ⟨_, rfl⟩
    have B5 : Below w4.heap.size w4 w5 := by rw [← hw5]; exact box1 _ _
    have F5 : Four w5 w4.heap.size 0 0 wd ht := by rw [← hw5]; exact cells4 (Below.refl _ _)
    have R5 : RcB w5 (sl w4.heap.size 1) [⟨0, 0, wd, ht⟩] := ⟨some ⟨w4.heap.size, 0, none⟩, 1, rfl, by simp, fun i r hr => by
      match i with
      | 0 =>
        simp at hr
        subst hr
        exact ⟨w4.heap.size, rfl, F5.2.2, F5.1.1, F5.1.2.1, F5.1.2.2.1, F5.1.2.2.2⟩
      | j + 1 => simp at hr⟩
    have d5 := d4.upto B5
    have s5 := s4.upto B5
    have BW5 : Below w.heap.size w w5 := bt BX (bt B4 B5)
    have hbl : w.heap.size ≤ b := by omega
    have hpl : w.heap.size ≤ p := by omega
    have hE5 : ∀ Y, Turns (fun k => k = b) w5 Y → Wl Y q wd ht tl f ∧ Grnd Y ∧ Offs Y := fun Y hY => HK.out Y (BW5.trans (hY.below (B := w.heap.size) (fun k hk => by omega) BW5.size))
    have hwi : ∀ r ∈ ([⟨0, 0, wd, ht⟩] : List Rc), wi r.x r.y r.a r.b 0 0 wd ht = true := fun r hr => by
      simp at hr
      subst hr
      have h1 : has 0 0 (wd : Int) (ht : Int) 0 0 = true := by rw [has_iff]; exact ⟨hm, by omega⟩
      have h2 : has 0 0 (wd : Int) (ht : Int) (0 + wd - 1) (0 + ht - 1) = true := by rw [has_iff]; exact ⟨hm, by omega⟩
      simp only [wi, Bool.and_eq_true]
      exact ⟨hm, h1, h2⟩
    have HR := hide (reckon_any p q b N cl (n : Nat) wd ht (List.replicate N 0) tl f (sl w4.heap.size 1) [⟨0, 0, wd, ht⟩] w5 hwd HN.out d5 s5 (by simp) (fun u hu => by rw [(List.mem_replicate.1 hu).2]; omega) hE5 R5 (by simp) hwi)
    have hst := stL_right (W := wd) (H := ht) (l := List.replicate N 0) (rl := [⟨0, 0, wd, ht⟩]) HN.out hwd (fun x y h => car_has (tl := tl) (f := f) (c := cl) h) (by simp) (fun k hk h => by rw [mkR_all hwd.1.1 (by rw [← HN.out]; exact hk)] at h; cases h)
    rw [hst] at HR
    have HB := hide BW5
    have HD := hide d5
    have HW5 := hide hw5
    have hpb := d5.ne s5
    clear hst R5 hE5 hwi BW5 d5 s5 d4 s4 HK HE HA HC HS hmk hw5
    go_wp2_with fail
    rw [HW5.out]
    refine HR.out.mono ?_
    rintro e w6 ⟨rfl, s6, t6⟩
    have HD6 := hide (HD.out.kept t6 hpb)
    have HB6 := hide (HB.out.trans (t6.below (B := w.heap.size) (fun k hk => by omega) HB.out.size))
    have HS6 := hide s6
    clear HR s6 t6 f0 f1 f2 f3
    go_wp2_with fail
    go_ret2
    exact ⟨p, b, rfl, ⟨HD6.out, HS6.out⟩, HB6.out, hbl, hpl⟩
  refine wp_region_held_drew (S := fun wx => (wx.cell? ⟨w1.heap.size, 0, none⟩ = some (.int .i64 0) ∧ wx.cell? ⟨w1.heap.size, 1, none⟩ = some (.int .i64 0) ∧ wx.cell? ⟨w1.heap.size, 2, none⟩ = some (.int .i64 wd) ∧ wx.cell? ⟨w1.heap.size, 3, none⟩ = some (.int .i64 ht))) (by kernel_rfl) (HS.out _ (Below.refl _ _).drew) (fun hHeld => ?_)
  refine wpAnyH_take (i := 0) (v := ?_) rfl (by kernel_rfl) (by kernel_rfl) (by kernel_rfl) (fun _ _ _ h => h.elim) (Or.inl ⟨by rfl, ?_⟩) (by assumption) ?_
  rotate_left
  · intro wx hSw
    try dsimp only at hSw
    go_simp
    try with_reducible rfl
  try simp only [Act.put, List.getElem_toArray, List.getElem_cons_zero, List.getElem_cons_succ, List.setIfInBounds_toArray, List.set_cons_zero, List.set_cons_succ]
  refine wpAnyH_take (i := 1) (v := ?_) rfl (by kernel_rfl) (by kernel_rfl) (by kernel_rfl) (fun _ _ _ h => h.elim) (Or.inl ⟨by rfl, ?_⟩) (by assumption) ?_
  rotate_left
  · intro wx hSw
    try dsimp only at hSw
    go_simp
    try with_reducible rfl
  try simp only [Act.put, List.getElem_toArray, List.getElem_cons_zero, List.getElem_cons_succ, List.setIfInBounds_toArray, List.set_cons_zero, List.set_cons_succ]
  refine wpAnyH_take (i := 2) (v := ?_) rfl (by kernel_rfl) (by kernel_rfl) (by kernel_rfl) (fun _ _ _ h => h.elim) (Or.inl ⟨by rfl, ?_⟩) (by assumption) ?_
  rotate_left
  · intro wx hSw
    try dsimp only at hSw
    go_simp
    try with_reducible rfl
  try simp only [Act.put, List.getElem_toArray, List.getElem_cons_zero, List.getElem_cons_succ, List.setIfInBounds_toArray, List.set_cons_zero, List.set_cons_succ]
  refine wpAnyH_take (i := 3) (v := ?_) rfl (by kernel_rfl) (by kernel_rfl) (by kernel_rfl) (fun _ _ _ h => h.elim) (Or.inl ⟨by rfl, ?_⟩) (by assumption) ?_
  rotate_left
  · intro wx hSw
    try dsimp only at hSw
    go_simp
    try with_reducible rfl
  try simp only [Act.put, List.getElem_toArray, List.getElem_cons_zero, List.getElem_cons_succ, List.setIfInBounds_toArray, List.set_cons_zero, List.set_cons_succ]
  refine wpAnyH_take (i := 4) (v := ?_) rfl (by kernel_rfl) (by kernel_rfl) (by kernel_rfl) (fun _ _ _ h => h.elim) (Or.inl ⟨by rfl, ?_⟩) (by assumption) ?_
  rotate_left
  · intro wx hSw
    try dsimp only at hSw
    go_simp
    try with_reducible rfl
  try simp only [Act.put, List.getElem_toArray, List.getElem_cons_zero, List.getElem_cons_succ, List.setIfInBounds_toArray, List.set_cons_zero, List.set_cons_succ]
  refine wpAnyH_take (i := 5) (v := ?_) rfl (by kernel_rfl) (by kernel_rfl) (by kernel_rfl) (fun _ _ _ h => h.elim) (Or.inl ⟨by rfl, ?_⟩) (by assumption) ?_
  rotate_left
  · intro wx hSw
    try dsimp only at hSw
    go_simp
    try with_reducible rfl
  try simp only [Act.put, List.getElem_toArray, List.getElem_cons_zero, List.getElem_cons_succ, List.setIfInBounds_toArray, List.set_cons_zero, List.set_cons_succ]
  refine wpAnyH_take (i := 6) (v := ?_) rfl (by kernel_rfl) (by kernel_rfl) (by kernel_rfl) (fun _ _ _ h => h.elim) (Or.inl ⟨by rfl, ?_⟩) (by assumption) ?_
  rotate_left
  · intro wx hSw
    try dsimp only at hSw
    go_simp
    try with_reducible rfl
  try simp only [Act.put, List.getElem_toArray, List.getElem_cons_zero, List.getElem_cons_succ, List.setIfInBounds_toArray, List.set_cons_zero, List.set_cons_succ]
  refine wpAnyH_take (i := 7) (v := ?_) rfl (by kernel_rfl) (by kernel_rfl) (by kernel_rfl) (fun _ _ _ h => h.elim) (Or.inl ⟨by rfl, ?_⟩) (by assumption) ?_
  rotate_left
  · intro wx hSw
    try dsimp only at hSw
    go_simp
    try with_reducible rfl
  try simp only [Act.put, List.getElem_toArray, List.getElem_cons_zero, List.getElem_cons_succ, List.setIfInBounds_toArray, List.set_cons_zero, List.set_cons_succ]
  refine wpAnyH_take (i := 9) (v := ?_) rfl (by kernel_rfl) (by kernel_rfl) (by kernel_rfl) (fun _ _ _ h => h.elim) (Or.inl ⟨by rfl, ?_⟩) (by assumption) ?_
  rotate_left
  · intro wx hSw
    try dsimp only at hSw
    go_simp
    try with_reducible rfl
  try simp only [Act.put, List.getElem_toArray, List.getElem_cons_zero, List.getElem_cons_succ, List.setIfInBounds_toArray, List.set_cons_zero, List.set_cons_succ]
  refine wpAnyH_ready (rs := [8, 10]) (by kernel_rfl) (by simp) ?_
  refine AllReadyH.cons rfl (fun K hK => ?_) ?_
  · go_simp
    have s1 : Szs (X.alloc (.cells (Array.replicate N (.int .u8 0)) 5)).drew X.heap.size (List.replicate N 0) := made_sizes2 N X
    have b1 : Below X.heap.size X (X.alloc (.cells (Array.replicate N (.int .u8 0)) 5)).drew := (box1 X _).drew
    generalize hZ : (X.alloc (.cells (Array.replicate N (.int .u8 0)) 5)).drew = Z at s1 b1 ⊢
    have HZ := hide hZ
    clear hZ
    refine hK.out _ _ ?_ (fun hHeld => ?_)
    · first | exact HS.out _ (Below.refl _ _).drew | exact HS.out _ b1 | exact HS.out _ b2
    clear hK K
    try simp only [Act.put, List.getElem_toArray, List.getElem_cons_zero, List.getElem_cons_succ, List.setIfInBounds_toArray, List.set_cons_zero, List.set_cons_succ]
    refine wpAnyH_ready (rs := [10]) (by kernel_rfl) (by simp) ?_
    refine AllReadyH.cons rfl (fun K hK => ?_) ?_
    · go_simp
      refine (HE.out _ (bt BX b1)).mono ?_
      rintro e z1 ⟨rfl, hz1⟩
      try go_wp2_with fail
      have hz2 := hz1.symm
      subst hz2
      refine hK.out _ _ ?_ (fun hHeld => ?_)
      · first | exact HS.out _ (Below.refl _ _).drew | exact HS.out _ b1 | exact HS.out _ b2
      clear hK K
      try simp only [Act.put, List.getElem_toArray, List.getElem_cons_zero, List.getElem_cons_succ, List.setIfInBounds_toArray, List.set_cons_zero, List.set_cons_succ]
      refine wpAnyH_take (i := 11) (v := ?_) rfl (by kernel_rfl) (by kernel_rfl) (by kernel_rfl) (fun _ _ _ h => h.elim) (Or.inl ⟨by rfl, ?_⟩) (by assumption) ?_
      rotate_left
      · intro wx hSw
        try dsimp only at hSw
        go_simp
        try with_reducible rfl
      try simp only [Act.put, List.getElem_toArray, List.getElem_cons_zero, List.getElem_cons_succ, List.setIfInBounds_toArray, List.set_cons_zero, List.set_cons_succ]
      refine wpAnyH_ready (rs := [12]) (by kernel_rfl) (by simp) ?_
      refine AllReadyH.cons rfl (fun K hK => ?_) ?_
      · go_simp
        have d1 : Fd (Z.alloc (.cells #[ptr q, .int .i64 cl, .int .i64 0, .int .i64 0, .int .i64 wd, .int .i64 ht, sl X.heap.size N, .int .i64 (n : Nat)] 59)) Z.heap.size q cl wd ht X.heap.size N (n : Nat) := heap_alloc_new Z _
        have b2 : Below X.heap.size X (Z.alloc (.cells #[ptr q, .int .i64 cl, .int .i64 0, .int .i64 0, .int .i64 wd, .int .i64 ht, sl X.heap.size N, .int .i64 (n : Nat)] 59)) := bt b1 (box1 _ _)
        have s2 : Szs (Z.alloc (.cells #[ptr q, .int .i64 cl, .int .i64 0, .int .i64 0, .int .i64 wd, .int .i64 ht, sl X.heap.size N, .int .i64 (n : Nat)] 59)) X.heap.size (List.replicate N 0) := s1.upto (box1 _ _)
        refine hK.out _ _ ?_ (fun hHeld => ?_)
        · first | exact HS.out _ (Below.refl _ _).drew | exact HS.out _ b1 | exact HS.out _ b2
        clear hK K
        try simp only [Act.put, List.getElem_toArray, List.getElem_cons_zero, List.getElem_cons_succ, List.setIfInBounds_toArray, List.set_cons_zero, List.set_cons_succ]
        refine wpAnyH_take (i := 13) (v := ?_) rfl (by kernel_rfl) (by kernel_rfl) (by kernel_rfl) (fun _ _ _ h => h.elim) (Or.inl ⟨by rfl, ?_⟩) (by assumption) ?_
        rotate_left
        · intro wx hSw
          try dsimp only at hSw
          go_simp
          try with_reducible rfl
        try simp only [Act.put, List.getElem_toArray, List.getElem_cons_zero, List.getElem_cons_succ, List.setIfInBounds_toArray, List.set_cons_zero, List.set_cons_succ]
        refine wpAnyH_done (by kernel_rfl) ?_ _
        exact ⟨_, _, _, _, _, _, _, _, _, _, _, _, _, _, ⟨⟨d1, s2⟩, b2, Nat.le_refl _, b1.size⟩, rfl⟩
      exact AllReadyH.nil
    exact AllReadyH.nil
  refine AllReadyH.cons rfl (fun K hK => ?_) ?_
  · go_simp
    refine (HE.out _ (bt BX (Below.refl _ _).drew)).mono ?_
    rintro e z1 ⟨rfl, hz1⟩
    try go_wp2_with fail
    have hz2 := hz1.symm
    subst hz2
    refine hK.out _ _ ?_ (fun hHeld => ?_)
    · first | exact HS.out _ (Below.refl _ _).drew | exact HS.out _ b1 | exact HS.out _ b2
    clear hK K
    try simp only [Act.put, List.getElem_toArray, List.getElem_cons_zero, List.getElem_cons_succ, List.setIfInBounds_toArray, List.set_cons_zero, List.set_cons_succ]
    refine wpAnyH_ready (rs := [8]) (by kernel_rfl) (by simp) ?_
    refine AllReadyH.cons rfl (fun K hK => ?_) ?_
    · go_simp
      have s1 : Szs (X.alloc (.cells (Array.replicate N (.int .u8 0)) 5)).drew X.heap.size (List.replicate N 0) := made_sizes2 N X
      have b1 : Below X.heap.size X (X.alloc (.cells (Array.replicate N (.int .u8 0)) 5)).drew := (box1 X _).drew
      generalize hZ : (X.alloc (.cells (Array.replicate N (.int .u8 0)) 5)).drew = Z at s1 b1 ⊢
      have HZ := hide hZ
      clear hZ
      refine hK.out _ _ ?_ (fun hHeld => ?_)
      · first | exact HS.out _ (Below.refl _ _).drew | exact HS.out _ b1 | exact HS.out _ b2
      clear hK K
      try simp only [Act.put, List.getElem_toArray, List.getElem_cons_zero, List.getElem_cons_succ, List.setIfInBounds_toArray, List.set_cons_zero, List.set_cons_succ]
      refine wpAnyH_take (i := 11) (v := ?_) rfl (by kernel_rfl) (by kernel_rfl) (by kernel_rfl) (fun _ _ _ h => h.elim) (Or.inl ⟨by rfl, ?_⟩) (by assumption) ?_
      rotate_left
      · intro wx hSw
        try dsimp only at hSw
        go_simp
        try with_reducible rfl
      try simp only [Act.put, List.getElem_toArray, List.getElem_cons_zero, List.getElem_cons_succ, List.setIfInBounds_toArray, List.set_cons_zero, List.set_cons_succ]
      refine wpAnyH_ready (rs := [12]) (by kernel_rfl) (by simp) ?_
      refine AllReadyH.cons rfl (fun K hK => ?_) ?_
      · go_simp
        have d1 : Fd (Z.alloc (.cells #[ptr q, .int .i64 cl, .int .i64 0, .int .i64 0, .int .i64 wd, .int .i64 ht, sl X.heap.size N, .int .i64 (n : Nat)] 59)) Z.heap.size q cl wd ht X.heap.size N (n : Nat) := heap_alloc_new Z _
        have b2 : Below X.heap.size X (Z.alloc (.cells #[ptr q, .int .i64 cl, .int .i64 0, .int .i64 0, .int .i64 wd, .int .i64 ht, sl X.heap.size N, .int .i64 (n : Nat)] 59)) := bt b1 (box1 _ _)
        have s2 : Szs (Z.alloc (.cells #[ptr q, .int .i64 cl, .int .i64 0, .int .i64 0, .int .i64 wd, .int .i64 ht, sl X.heap.size N, .int .i64 (n : Nat)] 59)) X.heap.size (List.replicate N 0) := s1.upto (box1 _ _)
        refine hK.out _ _ ?_ (fun hHeld => ?_)
        · first | exact HS.out _ (Below.refl _ _).drew | exact HS.out _ b1 | exact HS.out _ b2
        clear hK K
        try simp only [Act.put, List.getElem_toArray, List.getElem_cons_zero, List.getElem_cons_succ, List.setIfInBounds_toArray, List.set_cons_zero, List.set_cons_succ]
        refine wpAnyH_take (i := 13) (v := ?_) rfl (by kernel_rfl) (by kernel_rfl) (by kernel_rfl) (fun _ _ _ h => h.elim) (Or.inl ⟨by rfl, ?_⟩) (by assumption) ?_
        rotate_left
        · intro wx hSw
          try dsimp only at hSw
          go_simp
          try with_reducible rfl
        try simp only [Act.put, List.getElem_toArray, List.getElem_cons_zero, List.getElem_cons_succ, List.setIfInBounds_toArray, List.set_cons_zero, List.set_cons_succ]
        refine wpAnyH_done (by kernel_rfl) ?_ _
        exact ⟨_, _, _, _, _, _, _, _, _, _, _, _, _, _, ⟨⟨d1, s2⟩, b2, Nat.le_refl _, b1.size⟩, rfl⟩
      exact AllReadyH.nil
    exact AllReadyH.nil
  exact AllReadyH.nil
end Go.Proofs.YtnoodnmbghfchaaDoor
set_option linter.unusedSimpArgs false
namespace Go.Proofs.YtnoodnmbghfchaaDoor
open Go.RowKit
set_option linter.unusedVariables false
abbrev nv (n : Nat) : Value := .int .i64 (n : Nat)
/-- In block g, of so much room, lie numbers. -/
def Wg (w : World) (g cap : Nat) (l : List Nat) : Prop := ∃ cur : Array Value, w.heap[g]? = some (.cells cur 3 (0, 0)) ∧ l.length ≤ cap ∧ cur.size = cap ∧ cur.toList.take l.length = l.map nv
section
variable {w w' : World} {g cap : Nat} {l : List Nat}
theorem Wg.of {v : Value} {n : Nat} (h : w.ownsRow 0 3 1 v (n + 1) (l.map nv)) (hl : l.length = n + 1) : ∃ g cap, v = .slice (some ⟨g, 0, none⟩) (n + 1) cap ∧ Wg w g cap l := by
  rcases h.2 with ⟨_, h0⟩ | ⟨g, cap, cur, e, h1, h2, h3, h4, h5, h6⟩
  · omega
  · refine ⟨g, cap, e, cur, h2, by omega, by omega, ?_⟩
    rw [Nat.mul_one] at h6
    rw [hl]
    exact h6
theorem Wg.same (h : Wg w g cap l) (hg : w'.heap[g]? = w.heap[g]?) : Wg w' g cap l := by
  obtain ⟨cur, h1, h2⟩ := h
  exact ⟨cur, hg.trans h1, h2⟩
theorem Wg.upto (h : Wg w g cap l) (hb : Below w.heap.size w w') : Wg w' g cap l := by
  obtain ⟨cur, h1, h2⟩ := id h
  exact h.same (hb.block g (Array.getElem?_eq_some_iff.1 h1).1)
theorem Wg.room (h : Wg w g cap l) : l.length ≤ cap := by
  obtain ⟨cur, h1, h2, -⟩ := h
  exact h2
theorem Wg.c (h : Wg w g cap l) {j x : Nat} (hj : l[j]? = some x) : w.cell? ⟨g, j, none⟩ = some (nv x) := by
  obtain ⟨cur, h1, h2, h3, h4⟩ := h
  rw [cell_of_row w g j _ _ _ h1]
  have hl : j < l.length := (List.getElem?_eq_some_iff.1 hj).1
  have := congrArg (fun z => z[j]?) h4
  simp only [List.getElem?_map, hj, Option.map_some] at this
  rw [List.getElem?_take_of_lt hl] at this
  simpa using this
theorem Wg.f (h : Wg w g cap l) (j : Nat) : w.frozen? ⟨g, j, none⟩ = false := by
  obtain ⟨cur, h1, -⟩ := h
  simp [World.frozen?, h1]
theorem Wg.set (h : Wg w g cap l) (j x : Nat) : Wg (w.setCell ⟨g, j, none⟩ (nv x)) g cap (l.set j x) := by
  obtain ⟨cur, h1, h2, h3, h4⟩ := h
  refine ⟨cur.setIfInBounds j (nv x), by simp [World.setCell, Array.getElem?_modify, h1], by simpa using h2, by simpa using h3, ?_⟩
  rw [List.length_set, List.map_set, ← h4, Array.toList_setIfInBounds, List.take_set]
end
/-- So far anew, the rest as it was. -/
def mix (f g : Nat → Nat) (M j : Nat) : List Nat := (List.range M).map (fun k => if k < j then g k else f k)
theorem mix_zero (f g : Nat → Nat) (M : Nat) : mix f g M 0 = (List.range M).map f := by simp [mix]
theorem mix_all (f g : Nat → Nat) (M : Nat) : mix f g M M = (List.range M).map g := by
  unfold mix
  refine List.map_congr_left fun k hk => ?_
  rw [if_pos (List.mem_range.1 hk)]
theorem mix_at (f g : Nat → Nat) {M j : Nat} (h : j < M) : (mix f g M j)[j]? = some (f j) := by
  simp [mix, h]
theorem mix_set (f g : Nat → Nat) (M j : Nat) : (mix f g M j).set j (g j) = mix f g M (j + 1) := by
  refine List.ext_getElem? fun k => ?_
  by_cases hk : k < M
  · by_cases e : j = k
    · subst e
      simp [mix, hk]
    · rw [List.getElem?_set_ne e]
      simp only [mix, List.getElem?_map, List.getElem?_range hk, Option.map_some]
      by_cases h : k < j
      · rw [if_pos h, if_pos (by omega)]
      · rw [if_neg h, if_neg (by omega)]
  · rw [List.getElem?_eq_none (by simp [mix]; omega), List.getElem?_eq_none (by simp [mix]; omega)]
theorem mix_len (f g : Nat → Nat) (M j : Nat) : (mix f g M j).length = M := by simp [mix]
/-- An edit of a list of edits. -/
def EdAtR (w : World) (a : Option Addr) (i : Nat) (t : Bool × Bd) : Prop :=
  ∃ g o, a = some ⟨g, o, none⟩ ∧ g < w.heap.size ∧ w.cell? ⟨g, o + i * 6, none⟩ = some (.bool t.1) ∧ w.cell? ⟨g, o + i * 6 + 1, none⟩ = some (.int .i64 t.2.id) ∧ w.cell? ⟨g, o + i * 6 + 2, none⟩ = some (.int .i64 t.2.x) ∧ w.cell? ⟨g, o + i * 6 + 3, none⟩ = some (.int .i64 t.2.y) ∧ w.cell? ⟨g, o + i * 6 + 4, none⟩ = some (.int .i64 t.2.a) ∧ w.cell? ⟨g, o + i * 6 + 5, none⟩ = some (.int .i64 t.2.b)
theorem EdAtR.kept {w w' : World} {a : Option Addr} {i : Nat} {t : Bool × Bd} {N : Nat} (h : EdAtR w a i t) (hN : w.heap.size ≤ N) (hb : Below N w w') : EdAtR w' a i t := by
  obtain ⟨g, o, e1, e2, c0, c1, c2, c3, c4, c5⟩ := h
  have hc := fun o => hb.cell (p := ⟨g, o, none⟩) (Nat.lt_of_lt_of_le e2 hN)
  exact ⟨g, o, e1, Nat.lt_of_lt_of_le e2 hb.size, (hc _).trans c0, (hc _).trans c1, (hc _).trans c2, (hc _).trans c3, (hc _).trans c4, (hc _).trans c5⟩
/-- The slice v, wherever it begins, reads as the edits l. -/
def EdR (w : World) (v : Value) (l : List (Bool × Bd)) : Prop :=
  ∃ a cap, v = .slice a l.length cap ∧ l.length ≤ cap ∧ ∀ i t, l[i]? = some t → EdAtR w a i t
theorem z3i : True := trivial
end Go.Proofs.YtnoodnmbghfchaaDoor
set_option linter.unusedSimpArgs false
namespace Go.Proofs.YtnoodnmbghfchaaDoor
open Go.RowKit
set_option linter.unusedVariables false
section
variable {N : Nat} {w w' : World} {q r : Nat} {W H : Int} {tl : List Nat} {l : List Bd} {es : List Rc} {bm n : Nat} {tv bv ev rt rb re : Value}
theorem BoAt.ge (h : BoAt N w q r W H tl l es bm n tv bv ev rt rb re) {k : Nat} (hk : TT q r bm bv ev rb re k) : N ≤ k := by
  rcases hk with (rfl | rfl | e | e) | (rfl | e | e)
  · exact h.np
  · exact h.nm
  · exact h.nb k e
  · exact h.ne k e
  · exact h.nr
  · exact h.nb' k e
  · exact h.ne' k e
end
/-- What the second loop keeps. -/
def I2 (w : World) (Nb p q r b A g cap : Nat) (cl : Int) (wd ht N : Nat) (tl : List Nat) (bm : Nat) (tv rt : Value) (k : Nat) (wr : World) : Prop :=
  ∃ l0 e0 l es n bv ev rb re, Us Nb wr p q r b A g cl wd ht N tl l0 e0 l es bm n tv bv ev rt rb re ∧ Wg wr g cap ((List.range N).map (clrK (carB wd ht tl (whoF l0) cl) wd)) ∧ (es.length ≤ k ∧ n ≤ 16384 + 64 * k) ∧ Below w.heap.size w wr
/-- What the third loop keeps: j of the numbers are told anew. -/
def I3 (w : World) (Nb p q r b A g cap : Nat) (cl : Int) (wd ht N : Nat) (tl : List Nat) (bm : Nat) (tv rt : Value) (f0 : Nat → Nat) (l : List Bd) (es : List Rc) (n : Nat) (bv ev rb re : Value) (j : Nat) (wr : World) : Prop :=
  Us Nb wr p q r b A g cl wd ht N tl l es.length l es bm n tv bv ev rt rb re ∧ Wg wr g cap (mix f0 (clrK (carB wd ht tl (whoF l) cl) wd) N j) ∧ Below w.heap.size w wr
section
variable {w : World} {Nb p q r b A g cap : Nat} {cl : Int} {wd ht N : Nat} {tl : List Nat} {bm : Nat} {tv rt : Value} {k : Nat} {wr w' : World}
theorem I2.upto (h : I2 w Nb p q r b A g cap cl wd ht N tl bm tv rt k wr) (hb : Below wr.heap.size wr w') : I2 w Nb p q r b A g cap cl wd ht N tl bm tv rt k w' := by
  obtain ⟨l0, e0, l, es, n, bv, ev, rb, re, h1, h2, h3, h4⟩ := h
  exact ⟨l0, e0, l, es, n, bv, ev, rb, re, h1.below hb, h2.upto hb, h3, bt h4 hb⟩
theorem I2.edit (h : I2 w Nb p q r b A g cap cl wd ht N tl bm tv rt k wr) (hw : w.heap.size ≤ Nb) (hk : k < 60) (z : Bool) (t : Bd) :
    Calls Tryd.prog 16 #[ptr q, ptr r, edV z t] wr fun e w' => (∃ v, e = .returned v) ∧ I2 w Nb p q r b A g cap cl wd ht N tl bm tv rt (k + 1) w' := by
  obtain ⟨l0, e0, l, es, n, bv, ev, rb, re, h1, h2, ⟨h3, h5⟩, h4⟩ := h
  refine (does_any z t h1.bo h1.fine h1.nN.2.2.2 (by unfold maxLen; omega) (by omega)).mono ?_
  rintro e w' ⟨he, hD⟩
  obtain ⟨l', es', n', bv', ev', rb', re', u1, ⟨u2, u3⟩, u4, T⟩ := h1.does hD
  refine ⟨he, l0, e0, l', es', n', bv', ev', rb', re', u1, h2.same u4, ⟨by omega, by omega⟩, h4.trans ?_⟩
  exact (T.below (B := w.heap.size) (fun j hj => Nat.le_trans hw (h1.bo.ge hj)) h4.size)
theorem I2.update (h : I2 w Nb p q r b A g cap cl wd ht N tl bm tv rt k wr) (hw : w.heap.size ≤ Nb) (hk : k ≤ 60) (hM : mt wd ht tl = true ∧ ∀ n ∈ tl, n < 256) (hg : Grnd w) (ho : Offs w) (hwd : (1 ≤ wd ∧ wd ≤ 128) ∧ 1 ≤ ht ∧ ht ≤ 128) (hN : N = wd * ht) :
    Calls Tryd.prog 17 #[ptr p] wr fun e w' => ∃ l0 l es n bv ev rb re, e = .returned (.tuple #[.int .i64 (cntK (carB wd ht tl (whoF l) cl) wd ((List.range N).map (clrK (carB wd ht tl (whoF l0) cl) wd)) N : Nat), .int .i64 0]) ∧
      I3 w Nb p q r b A g cap cl wd ht N tl bm tv rt (clrK (carB wd ht tl (whoF l0) cl) wd) l es n bv ev rb re 0 w' ∧ (es.length ≤ k ∧ n ≤ 16384 + 64 * k) := by
  obtain ⟨l0, e0, l, es, n, bv, ev, rb, re, h1, h2, h3, h4⟩ := h
  have hnN := h1.nN
  have hdl : (es.drop e0).length ≤ 60 := by rw [List.length_drop]; omega
  refine (upd_any p q b N e0 es.length cl wd ht tl (whoF l0) (whoF l) (es.drop e0) wr hwd hN h1.fd h1.sz (fun X T => ?_) (fun wx hx => ?_) (by omega) h1.wi h1.ap).mono ?_
  · have bX := h1.bo.apart T (fun j hj => hj ▸ h1.oth_b)
    have hB : Below w.heap.size w X := h4.trans (T.below (B := w.heap.size) (fun j hj => by omega) h4.size)
    exact ⟨⟨bX.wl hM, hg.kept hB, ho.kept hB⟩, bX.ep⟩
  · have bX := h1.bo.below hx
    exact dirty_any q bm wd ht tv bv ev es e0 wx bX.d bX.e h1.le (by omega)
  · rintro e w' ⟨rfl, ⟨u1, u2⟩, T⟩
    obtain ⟨v1, v2⟩ := h1.upd u1 u2 T
    refine ⟨l0, l, es, n, bv, ev, rb, re, rfl, ⟨v1, ?_, h4.trans (T.below (B := w.heap.size) (fun j hj => by omega) h4.size)⟩, h3⟩
    rw [mix_zero]
    exact h2.same v2
variable {f0 : Nat → Nat} {l : List Bd} {es : List Rc} {n : Nat} {bv ev rb re : Value} {j : Nat}
theorem I3.upto (h : I3 w Nb p q r b A g cap cl wd ht N tl bm tv rt f0 l es n bv ev rb re j wr) (hb : Below wr.heap.size wr w') : I3 w Nb p q r b A g cap cl wd ht N tl bm tv rt f0 l es n bv ev rb re j w' :=
  ⟨h.1.below hb, h.2.1.upto hb, bt h.2.2 hb⟩
theorem I3.put (h : I3 w Nb p q r b A g cap cl wd ht N tl bm tv rt f0 l es n bv ev rb re j wr) (hw : w.heap.size ≤ Nb) {c : Nat} (hc : clrK (carB wd ht tl (whoF l) cl) wd j = c) : I3 w Nb p q r b A g cap cl wd ht N tl bm tv rt f0 l es n bv ev rb re (j + 1) (wr.setCell ⟨g, j, none⟩ (.int .i64 (c : Nat))) := by
  obtain ⟨h1, h2, h3⟩ := h
  have hnN := h1.nN
  refine ⟨h1.told j _, ?_, h3.setCell (p := ⟨g, j, none⟩) (by simp; omega) _⟩
  subst hc
  rw [← mix_set]
  exact h2.set j _
theorem I3.over (h : I3 w Nb p q r b A g cap cl wd ht N tl bm tv rt f0 l es n bv ev rb re N wr) (hk : es.length ≤ k ∧ n ≤ 16384 + 64 * k) : I2 w Nb p q r b A g cap cl wd ht N tl bm tv rt k wr := by
  obtain ⟨h1, h2, h3⟩ := h
  rw [mix_all] at h2
  exact ⟨l, es.length, l, es, n, bv, ev, rb, re, h1, h2, hk, h3⟩
end
end Go.Proofs.YtnoodnmbghfchaaDoor
set_option linter.unusedSimpArgs false
namespace Go.Proofs.YtnoodnmbghfchaaDoor
open Go.RowKit Go.Shelf
set_option linter.unusedVariables false
/-- The box of the law: the map. -/
theorem upd_box (w : World) (W H : Int) (tv bv : Value) : ∃ X, w.alloc (.cells #[.int .i64 W, .int .i64 H, tv, bv] 25) = X ∧ Below w.heap.size w X ∧ MB X w.heap.size W H tv bv := ⟨_, rfl, box1 _ _, MB.new w W H tv bv⟩
theorem dims_is {W H : Int} {tl : List Nat} {L : List Bd} (hc : chkC W H tl L = 0) : ∃ wd ht : Nat, W = (wd : Int) ∧ H = (ht : Int) ∧ (1 ≤ wd ∧ wd ≤ 128) ∧ 1 ≤ ht ∧ ht ≤ 128 := by
  obtain ⟨h1, h2⟩ := mt_gs (chkC_zero hc).1
  simp only [gs, decide_eq_true_eq] at h1 h2
  exact ⟨W.toNat, H.toNat, by omega, by omega, by omega, by omega⟩
set_option maxRecDepth 100000 in
set_option maxHeartbeats 4000000 in
theorem upd_bad (W H : Int) (tv bv : Value) (tl : List Nat) (L : List Bd) (cl : Int) (a3 : Option Addr) (n3 cap3 : Nat) (w : World) (hv : TlR w tv tl) (hb : ∀ x ∈ tl, x < 256) (hl : BdR w bv L) (hg : Grnd w) (ho : Offs w) (hc : chkC W H tl L = 1) :
    Calls Tryd.prog 4 #[mp W H tv bv, .int .i64 cl, .slice a3 n3 cap3] w fun e w' => e = .returned (.bool true) ∧ Below w.heap.size w w' := by
  obtain ⟨X, hX, B0, M0⟩ := upd_box w W H tv bv
  have HB := hide (both_no W H tv bv tl L X (hv.kept B0) hb (hl.kept B0) hc)
  have HA : Hid (∀ wx, Below w.heap.size w wx → Calls Tryd.prog 10 #[] wx fun e w' => e = .returned (.bool true) ∧ Below wx.heap.size wx w') := hide fun wx hx => awake_any wx (hg.kept hx) (ho.kept hx)
  obtain ⟨m0, m1, m2, m3⟩ := M0.c
  obtain ⟨a1, cap1, rfl, -⟩ := hv
  obtain ⟨a2, cap2, rfl, -⟩ := hl
  clear hc hb hg ho
  go_enter Tryd.func4, Tryd.ntmps4
  go_wp2_with fail
  refine HB.out.mono ?_
  rintro e w1 ⟨rfl, hb1⟩
  have HB1 := hide (bt B0 hb1)
  clear hX m0 m1 m2 m3 M0 HB B0 hb1
  go_wp2_with fail
  refine (fnew_nil cl w1).mono ?_
  rintro e w2 ⟨rfl, hb2⟩
  have HB2 := hide (bt HB1.out hb2)
  clear hb2
  go_wp2_with fail
  refine (HA.out _ HB2.out).mono ?_
  rintro e w3 ⟨rfl, hb3⟩
  have HB3 := hide (bt HB2.out hb3)
  clear hb3
  go_wp2_with fail
  go_ret
  exact ⟨rfl, HB3.out⟩
set_option maxRecDepth 100000 in
set_option maxHeartbeats 4000000 in
theorem upd_cls (W H : Int) (tv bv : Value) (tl : List Nat) (L : List Bd) (cl : Int) (a3 : Option Addr) (n3 cap3 : Nat) (w : World) (hv : TlR w tv tl) (hb : ∀ x ∈ tl, x < 256) (hl : BdR w bv L) (hg : Grnd w) (ho : Offs w) (hc : chkC W H tl L = 0) (hk : isC cl = false) :
    Calls Tryd.prog 4 #[mp W H tv bv, .int .i64 cl, .slice a3 n3 cap3] w fun e w' => e = .returned (.bool true) ∧ Below w.heap.size w w' := by
  obtain ⟨X, hX, B0, M0⟩ := upd_box w W H tv bv
  have HB := hide (both_ok W H tv bv tl L X (hv.kept B0) hb (hl.kept B0) hc)
  have HA : Hid (∀ wx, Below w.heap.size w wx → Calls Tryd.prog 10 #[] wx fun e w' => e = .returned (.bool true) ∧ Below wx.heap.size wx w') := hide fun wx hx => awake_any wx (hg.kept hx) (ho.kept hx)
  have HK := hide hk
  obtain ⟨m0, m1, m2, m3⟩ := M0.c
  obtain ⟨a1, cap1, rfl, -⟩ := hv
  obtain ⟨a2, cap2, rfl, -⟩ := hl
  clear hc hb hg ho hk
  go_enter Tryd.func4, Tryd.ntmps4
  go_wp2_with fail
  refine HB.out.mono ?_
  rintro e w1 ⟨q, r, rfl, hW, hR, hb1⟩
  have HW := hide hW
  have HB1 := hide (bt B0 hb1)
  clear hX m0 m1 m2 m3 M0 HB B0 hb1 hW hR
  go_wp2_with fail
  refine (fnew_bad cl HW.out.1 HK.out).mono ?_
  rintro e w2 ⟨rfl, hb2⟩
  have HB2 := hide (bt HB1.out hb2)
  clear hb2
  go_wp2_with fail
  refine (HA.out _ HB2.out).mono ?_
  rintro e w3 ⟨rfl, hb3⟩
  have HB3 := hide (bt HB2.out hb3)
  clear hb3
  go_wp2_with fail
  go_ret
  exact ⟨rfl, HB3.out⟩
set_option maxRecDepth 100000 in
set_option maxHeartbeats 4000000 in
theorem upd_big (wd ht : Nat) (hwd : (1 ≤ wd ∧ wd ≤ 128) ∧ 1 ≤ ht ∧ ht ≤ 128) (tv bv : Value) (tl : List Nat) (L : List Bd) (cl : Int) (a3 : Option Addr) (n3 cap3 : Nat) (w : World) (hv : TlR w tv tl) (hb : ∀ x ∈ tl, x < 256) (hl : BdR w bv L) (hg : Grnd w) (ho : Offs w) (hc : chkC wd ht tl L = 0) (hk : isC cl = true) (hbig : 1500 < wd * ht ∨ 60 < n3) :
    Calls Tryd.prog 4 #[mp wd ht tv bv, .int .i64 cl, .slice a3 n3 cap3] w fun e w' => e = .returned (.bool true) ∧ Below w.heap.size w w' := by
  obtain ⟨X, hX, B0, M0⟩ := upd_box w wd ht tv bv
  have HB := hide (both_ok wd ht tv bv tl L X (hv.kept B0) hb (hl.kept B0) hc)
  have HA : Hid (∀ wx, Below w.heap.size w wx → Calls Tryd.prog 10 #[] wx fun e w' => e = .returned (.bool true) ∧ Below wx.heap.size wx w') := hide fun wx hx => awake_any wx (hg.kept hx) (ho.kept hx)
  have HK := hide hk
  have HG := hide hg
  have HO := hide ho
  obtain ⟨N, hN⟩ : ∃ N, N = wd * ht := ⟨_, rfl⟩
  have hN2 : N ≤ 16384 := by have := Nat.mul_le_mul hwd.1.2 hwd.2.2; omega
  have hmul : IntKind.i64.wrap ((wd : Int) * (ht : Int)) = (N : Nat) := by
    rw [show (wd : Int) * (ht : Int) = ((wd * ht : Nat) : Int) by push_cast; rfl, ← hN]
    exact wrap_nat hN2
  rw [← hN] at hbig
  have M1 := M0
  obtain ⟨m0, m1, m2, m3⟩ := M0.c
  obtain ⟨a1, cap1, rfl, -⟩ := hv
  obtain ⟨a2, cap2, rfl, -⟩ := hl
  clear hc hb hg ho hk hN
  go_enter Tryd.func4, Tryd.ntmps4
  go_wp2_with fail
  refine HB.out.mono ?_
  rintro e w1 ⟨q, r, rfl, hW, hR, hb1⟩
  have HW := hide hW
  have HB1 := hide (bt B0 hb1)
  have M2 := M1.kept hb1
  clear hX m0 m1 m2 m3 M0 M1 HB B0 hb1 hW hR
  go_wp2_with fail
  refine (fnew_good cl HW.out.1 HW.out.2 (HG.out.kept HB1.out) (HO.out.kept HB1.out) HK.out).mono ?_
  rintro e V ⟨p, b, rfl, ⟨hd, hs⟩, hb2, -⟩
  have HB2 := hide (bt HB1.out hb2)
  have M3 := M2.kept hb2
  obtain ⟨m0, m1, m2, m3⟩ := M3.c
  clear hb2 M2 M3 hd hs HW
  by_cases h1 : 1500 < N
  · have h1I : (1500 : Int) < (N : Nat) := by omega
    go_wp2_with fail
    refine (HA.out _ HB2.out).mono ?_
    rintro e w3 ⟨rfl, hb3⟩
    have HB3 := hide (bt HB2.out hb3)
    clear hb3 m0 m1 m2 m3
    go_wp2_with fail
    go_ret
    exact ⟨rfl, HB3.out⟩
  · have h1I : ¬ (1500 : Int) < (N : Nat) := by omega
    have h2 : 60 < n3 := by omega
    have h2I : (60 : Int) < (n3 : Nat) := by omega
    go_wp2_with fail
    refine (HA.out _ HB2.out).mono ?_
    rintro e w3 ⟨rfl, hb3⟩
    have HB3 := hide (bt HB2.out hb3)
    clear hb3 m0 m1 m2 m3
    go_wp2_with fail
    go_ret
    exact ⟨rfl, HB3.out⟩
end Go.Proofs.YtnoodnmbghfchaaDoor
set_option linter.unusedSimpArgs false
namespace Go.Proofs.YtnoodnmbghfchaaDoor
open Go.RowKit Go.Shelf
set_option linter.unusedVariables false
theorem info3 : (Tryd.prog.info? 3).map (fun i => (i.zero, i.size, i.bytes)) = some (some (.int .i64 0), 1, 8) := by kernel_rfl
/-- What the first loop keeps. -/
structure I1 (V : World) (A wd ht : Nat) (f : Nat → Nat) (i : Nat) (v : Value) (wr : World) : Prop where
  below : Below V.heap.size V wr
  al : wr.heap[A]? = some (.cells #[.int .i64 0, .int .i64 0, .int .i64 wd, .int .i64 ht] 45 (0, 0))
  row : wr.ownsRow 0 3 1 v i (((List.range i).map f).map nv)
  own : ∀ k, v.ownBlock = some k → V.heap.size ≤ k
theorem I1.upto {V : World} {A wd ht : Nat} {f : Nat → Nat} {i : Nat} {v : Value} {wr w' : World} (h : I1 V A wd ht f i v wr) (hb : Below wr.heap.size wr w') : I1 V A wd ht f i v w' :=
  ⟨bt h.below hb, (hb.block A (Array.getElem?_eq_some_iff.1 h.al).1).trans h.al, row_kept h.row (Turns.of_below (S := NoB) hb) (fun _ _ => id), h.own⟩
theorem I1.next {V : World} {A wd ht : Nat} {f : Nat → Nat} {i : Nat} {v v' : Value} {wr w' : World} (h : I1 V A wd ht f i v wr) (hr : w'.ownsRow 0 3 1 v' (i + 1) (((List.range i).map f).map nv ++ [nv (f i)])) (hg : wr.grownBy w' v.ownBlock) (hl : v'.ownBlock = v.ownBlock ∨ v'.ownBlock = some wr.heap.size) : I1 V A wd ht f (i + 1) v' w' := by
  have T : Turns (fun j => v.ownBlock = some j) wr w' := Turns.of_grown hg (fun k e => e)
  refine ⟨h.below.trans (T.below (B := V.heap.size) (fun k hk => h.own k hk) h.below.size), T.same (fun e => absurd (row_type h.row e h.al) (by decide)) h.al, ?_, fun k e => ?_⟩
  · rw [List.range_succ, List.map_append, List.map_append]
    exact hr
  · rcases hl with hl | hl
    · exact h.own k (hl ▸ e)
    · rw [hl] at e
      cases e
      exact h.below.size
theorem nv_new (w : World) (n : Nat) : ∀ j u, ([nv n] : List Value)[j]? = some u → (w.alloc (.cells #[nv n] 3)).cell? ((⟨w.heap.size, 0, none⟩ : Addr).add j) = some u := by
  intro j u hu
  rw [Addr.add_lit, Nat.zero_add, cell_of_row _ w.heap.size j _ _ _ (heap_alloc_new w _)]
  simpa using hu
theorem one_nv (n : Nat) : ∀ u ∈ ([nv n] : List Value), u.oneCell' = true := by
  intro u hu
  simp only [List.mem_cons, List.not_mem_nil, or_false] at hu
  subst hu
  rfl
theorem cntK_le (car : Int → Int → Bool) (w : Nat) (l : List Nat) (m : Nat) : cntK car w l m ≤ m := by
  have := List.length_filter_le (fun k => decide (l.getD k 0 ≠ clrK car w k)) (List.range m)
  rw [List.length_range] at this
  exact this
theorem getD_range (f : Nat → Nat) {N j : Nat} (h : j < N) : ((List.range N).map f).getD j 0 = f j := by
  rw [List.getD_eq_getElem?_getD, List.getElem?_map, List.getElem?_range h]
  rfl
theorem wp_only {c : Code} {Q : Exit → Act → World → Prop} {a : Act} {w : World} (h : Code.wp Tryd.prog c (Only (fun a' w' => Q .normal a' w')) a w) : Code.wp Tryd.prog c Q a w := by
  refine Code.wp_mono ?_ h
  rintro (_ | _ | _ | _ | _) a' w' hO
  all_goals first | exact hO.elim | exact hO
set_option maxRecDepth 100000 in
set_option maxHeartbeats 8000000 in
theorem upd_good (wd ht : Nat) (hwd : (1 ≤ wd ∧ wd ≤ 128) ∧ 1 ≤ ht ∧ ht ≤ 128) (tv bv lv : Value) (tl : List Nat) (L : List Bd) (Ks : List (Bool × Bd)) (cl : Int) (w : World) (hv : TlR w tv tl) (hb : ∀ x ∈ tl, x < 256) (hl : BdR w bv L) (hK : EdR w lv Ks) (hg : Grnd w) (ho : Offs w) (hc : chkC wd ht tl L = 0) (hk : isC cl = true) (hsm : wd * ht ≤ 1500 ∧ Ks.length ≤ 60) :
    Calls Tryd.prog 4 #[mp wd ht tv bv, .int .i64 cl, lv] w fun e w' => e = .returned (.bool true) ∧ Below w.heap.size w w' := by
  obtain ⟨X0, hX0, B0, M0⟩ := upd_box w wd ht tv bv
  have HB := hide (both_bo wd ht tv bv tl L X0 (hv.kept B0) hb (hl.kept B0) hc)
  have HA : Hid (∀ wx, Below w.heap.size w wx → Calls Tryd.prog 10 #[] wx fun e w' => e = .returned (.bool true) ∧ Below wx.heap.size wx w') := hide fun wx hx => awake_any wx (hg.kept hx) (ho.kept hx)
  have HG := hide hg
  have HO := hide ho
  have HK := hide hk
  obtain ⟨hmt, hLl, hok, hwho⟩ := chkC_zero hc
  have hFn : Fine wd ht L := by simpa using (okL_fine wd ht L [] (Fine.nil _ _) rfl hok).1
  have HF := hide hFn
  have HM : Hid (mt wd ht tl = true ∧ ∀ n ∈ tl, n < 256) := hide ⟨hmt, hb⟩
  obtain ⟨N, hN⟩ : ∃ N, N = wd * ht := ⟨_, rfl⟩
  have hN2 : N ≤ 1500 := by omega
  have hN1 : 1 ≤ N := by have := Nat.mul_le_mul hwd.1.1 hwd.2.1; omega
  have hmul : IntKind.i64.wrap ((wd : Int) * (ht : Int)) = (N : Nat) := by
    rw [show (wd : Int) * (ht : Int) = ((wd * ht : Nat) : Int) by push_cast; rfl, ← hN]
    exact wrap_nat (by omega)
  obtain ⟨hsm1, hsm2⟩ := hsm
  have h1I : ¬ (1500 : Int) < (N : Nat) := by omega
  have h2I : ¬ (60 : Int) < (Ks.length : Nat) := by omega
  have h2N : ¬ 60 < Ks.length := by omega
  have M1 := M0
  obtain ⟨m0, m1, m2, m3⟩ := M0.c
  obtain ⟨a1, cap1, rfl, -⟩ := hv
  obtain ⟨a2, cap2, rfl, -⟩ := hl
  obtain ⟨a3, cap3, rfl, hK1, hK2⟩ := hK
  have HKs := hide hK2
  have HLl := hide hLl
  clear hc hb hg ho hk hmt hLl hok hwho hFn hsm1 hK2
  go_enter Tryd.func4, Tryd.ntmps4
  go_wp2_with fail
  refine HB.out.mono ?_
  rintro e w1 ⟨q, r, rfl, ⟨bm, t1, b1, rt, rb, hBo⟩, hb1⟩
  have HBo := hide hBo
  have HB1 := hide (bt B0 hb1)
  have M2 := M1.kept hb1
  have hX0n := B0.size
  have hX1n := hb1.size
  clear hX0 m0 m1 m2 m3 M0 M1 HB hb1 hBo
  go_wp2_with fail
  refine (fnew_own cl (HBo.out.wl HM.out) HBo.out.ep (HG.out.kept HB1.out) (HO.out.kept HB1.out) HK.out).mono ?_
  rintro e V ⟨p, b, rfl, ⟨hd, hs⟩, hb2, hob, hop⟩
  have HB2 := hide (bt HB1.out hb2)
  rw [← hN] at hd hs
  have M3 := M2.kept hb2
  obtain ⟨m0, m1, m2, m3⟩ := M3.c
  have HV := hide (HBo.out.below hb2)
  have hat : ∀ (l : List Bd) x y, atL wd ht ((List.range N).map (clrK (carB wd ht tl (whoF l) cl) wd)) x y = clr (carB wd ht tl (whoF l) cl) x y := fun l x y => by
    rw [hN]; exact at_clr ⟨hwd.1.2, hwd.2.2⟩ (fun x y h => car_has h) x y
  have HAtw : Hid (∀ (wx : World) (l : List Bd) (ep : Int), Fd wx p q cl wd ht b N ep → Szs wx b ((List.range N).map (clrK (carB wd ht tl (whoF l) cl) wd)) → ∀ x y, Calls Tryd.prog 15 #[ptr p, cel x y] wx fun e w' => e = .returned (.int .i64 (clr (carB wd ht tl (whoF l) cl) x y : Nat)) ∧ Below wx.heap.size wx w') := hide fun wx l ep hd hs x y =>
    fat_is x y (hat l x y) hd hs ⟨hwd.1.2, hwd.2.2⟩ (by simp [hN]) (by simp) (clr_bytes _ _ _)
  have HAt : Hid (∀ wx, Below V.heap.size V wx → ∀ x y, Calls Tryd.prog 15 #[ptr p, cel x y] wx fun e w' => e = .returned (.int .i64 (clr (carB wd ht tl (whoF L) cl) x y : Nat)) ∧ Below wx.heap.size wx w') := hide fun wx hx x y => HAtw.out wx L _ (hd.upto hx) (hs.upto hx) x y
  have HAl : Hid (∀ wx, Below V.heap.size V wx → Calls Tryd.prog 14 #[ptr r] wx fun e w' => e = .returned (rct 0 0 wd ht) ∧ Below wx.heap.size wx w') := hide fun wx hx => refall_is ((HV.out.rl HM.out HLl.out).kept hx)
  have HN := hide hN
  have HFd := hide hd
  have HSz := hide hs
  have nb1 : t1.ownBlock ≠ some b ∧ rt.ownBlock ≠ some b := ⟨fun e => by have := (HBo.out.t.lt b e).2; omega, fun e => by have := (HBo.out.t'.lt b e).2; omega⟩
  have HNb := hide nb1
  have zw1 := HB1.out.size
  have hob' : X0.heap.size ≤ b ∧ X0.heap.size ≤ p ∧ X0.heap.size ≤ V.heap.size := ⟨by omega, by omega, by have := hb2.size; omega⟩
  have HOb := hide hob'
  have HX0n := hide hX0n
  have HB0 := hide B0
  clear hd hs hb2 hat hN M2 M3 hob hop nb1 zw1 hob' hX0n hX1n B0
  go_wp2_with fail
  refine (HAl.out _ (box1 _ _)).mono ?_
  rintro e w3 ⟨rfl, hb3⟩
  have I0 : I1 V w3.heap.size wd ht (clrK (carB wd ht tl (whoF L) cl) wd) 0 (.slice (some ⟨V.heap.size, 0, none⟩) 0 0) (w3.alloc (.cells #[.int .i64 0, .int .i64 0, .int .i64 wd, .int .i64 ht] 45)) := by
    refine ⟨bt (box1 _ _) (bt hb3 (box1 _ _)), heap_alloc_new w3 _, ?_, fun k e => by simp [Value.ownBlock] at e; omega⟩
    have r0 : (V.alloc (.cells #[] 3)).ownsRow 0 3 1 (.slice (some ⟨V.heap.size, 0, none⟩) 0 0) 0 [] := ⟨rfl, .inr ⟨V.heap.size, 0, #[], rfl, Nat.zero_le _, heap_alloc_new V _, Nat.le_refl _, by decide, rfl, rfl⟩⟩
    exact row_kept r0 (Turns.of_below (S := NoB) (bt hb3 (box1 _ _))) (fun _ _ => id)
  obtain ⟨X, hX⟩ : ∃ X, w3.alloc (.cells #[.int .i64 0, .int .i64 0, .int .i64 wd, .int .i64 ht] 45) = X := ⟨_, rfl⟩
  rw [hX] at I0
  obtain ⟨A, hA⟩ : ∃ A, w3.heap.size = A := ⟨_, rfl⟩
  have HI0 := hide I0
  have HA1 := hide hA
  clear I0 hb3 m0 m1 m2 m3
  have hwI : (1 : Int) ≤ (wd : Nat) ∧ ((wd : Nat) : Int) ≤ 128 := by omega
  have hwd0 : ¬ wd = 0 := by omega
  generalize hcar : carB wd ht tl (whoF L) cl = car at HAt HI0
  have HCar := hide hcar
  clear hcar hA
  go_wp2_with fail
  go_loopw [12, 14] (fun a d wr => ∃ i : Nat, i ≤ N ∧ d = .int .i64 (i : Nat) ∧ I1 V w3.heap.size wd ht (clrK car wd) i a wr) (fun _ d _ => N - (intOf d).toNat)
  case atStart => exact ⟨0, by omega, rfl, HI0.out⟩
  case round =>
    obtain ⟨i, hi, rfl, hI⟩ := hrel
    have al := hI.al
    have n2 : wr.cell? ⟨w3.heap.size, 2, none⟩ = some (.int .i64 wd) := cell_of_row _ w3.heap.size 2 _ _ _ al
    have n3 : wr.cell? ⟨w3.heap.size, 3, none⟩ = some (.int .i64 ht) := cell_of_row _ w3.heap.size 3 _ _ _ al
    clear hX al
    by_cases hlt : i < N
    · have hli : ((i : Nat) : Int) < (N : Nat) := by omega
      have hiI : (0 : Int) ≤ (i : Nat) ∧ ((i : Nat) : Int) ≤ 16384 := by omega
      go_wp2_with fail
      obtain ⟨kx, hkx⟩ : ∃ kx : Int, ((i % wd : Nat) : Int) = kx := ⟨_, rfl⟩
      obtain ⟨ky, hky⟩ : ∃ ky : Int, ((i / wd : Nat) : Int) = ky := ⟨_, rfl⟩
      have hrem : (i : Int).tmod (wd : Int) = kx := hkx
      have hrem2 : (i : Int) % (wd : Int) = kx := by rw [← hkx]; exact (Int.natCast_emod i wd).symm
      have hquo : IntKind.i64.wrap ((i : Int) / (wd : Int)) = ky := by
        rw [← hky, ← Int.natCast_ediv]
        exact wrap_nat (Nat.le_trans (Nat.div_le_self i wd) (by omega))
      have hc0 : clrK car wd i = clr car kx ky := by unfold clrK; rw [hkx, hky]
      obtain ⟨c, hcc⟩ : ∃ c, clrK car wd i = c := ⟨_, rfl⟩
      have HAc : Hid (∀ wx, Below V.heap.size V wx → Calls Tryd.prog 15 #[ptr p, cel kx ky] wx fun e w' => e = .returned (.int .i64 (c : Nat)) ∧ Below wx.heap.size wx w') := hide fun wx hx => by rw [← hcc, hc0]; exact HAt.out wx hx kx ky
      have Hcc := hide hcc
      have D1 := hI.upto (Below.refl _ wr).drew
      have HS : Hid (∀ i v wx, I1 V w3.heap.size wd ht (clrK car wd) i v wx → wx.cell? ⟨w3.heap.size, 2, none⟩ = some (.int .i64 wd)) := hide fun i v wx h => cell_of_row _ w3.heap.size 2 _ _ _ h.al
      obtain ⟨fi, hf, hz, h1, h8⟩ := info_parts info3
      have hm1 : i + 1 ≤ maxLen := by unfold maxLen; omega
      have hm2 : (i + 1) * 8 ≤ 140737488355328 := by omega
      clear hkx hky hc0 hcc n2 n3
      refine wp_only ?_
      refine wp_region_held_drew (S := fun wx => wx.cell? ⟨w3.heap.size, 2, none⟩ = some (.int .i64 wd)) (by kernel_rfl) (HS.out _ _ _ D1) (fun hHeld => ?_)
      refine wpAnyH_take (i := 0) (v := ?_) rfl (by kernel_rfl) (by kernel_rfl) (by kernel_rfl) (fun _ _ _ h => h.elim) (Or.inl ⟨by rfl, ?_⟩) (by assumption) ?_
      rotate_left
      · intro wx hSw
        try dsimp only at hSw
        go_simp
        try with_reducible rfl
      try simp only [Act.put, List.getElem_toArray, List.getElem_cons_zero, List.getElem_cons_succ, List.setIfInBounds_toArray, List.set_cons_zero, List.set_cons_succ]
      refine wpAnyH_take (i := 1) (v := ?_) rfl (by kernel_rfl) (by kernel_rfl) (by kernel_rfl) (fun _ _ _ h => h.elim) (Or.inl ⟨by rfl, ?_⟩) (by assumption) ?_
      rotate_left
      · intro wx hSw
        try dsimp only at hSw
        go_simp
        try with_reducible rfl
      try simp only [Act.put, List.getElem_toArray, List.getElem_cons_zero, List.getElem_cons_succ, List.setIfInBounds_toArray, List.set_cons_zero, List.set_cons_succ]
      refine wpAnyH_take (i := 2) (v := ?_) rfl (by kernel_rfl) (by kernel_rfl) (by kernel_rfl) (fun _ _ _ h => h.elim) (Or.inl ⟨by rfl, ?_⟩) (by assumption) ?_
      rotate_left
      · intro wx hSw
        try dsimp only at hSw
        go_simp
        try with_reducible rfl
      try simp only [Act.put, List.getElem_toArray, List.getElem_cons_zero, List.getElem_cons_succ, List.setIfInBounds_toArray, List.set_cons_zero, List.set_cons_succ]
      refine wpAnyH_take (i := 3) (v := ?_) rfl (by kernel_rfl) (by kernel_rfl) (by kernel_rfl) (fun _ _ _ h => h.elim) (Or.inl ⟨by rfl, ?_⟩) (by assumption) ?_
      rotate_left
      · intro wx hSw
        try dsimp only at hSw
        go_simp
        try with_reducible rfl
      try simp only [Act.put, List.getElem_toArray, List.getElem_cons_zero, List.getElem_cons_succ, List.setIfInBounds_toArray, List.set_cons_zero, List.set_cons_succ]
      refine wpAnyH_take (i := 4) (v := ?_) rfl (by kernel_rfl) (by kernel_rfl) (by kernel_rfl) (fun _ _ _ h => h.elim) (Or.inl ⟨by rfl, ?_⟩) (by assumption) ?_
      rotate_left
      · intro wx hSw
        try dsimp only at hSw
        go_simp
        try with_reducible rfl
      try simp only [Act.put, List.getElem_toArray, List.getElem_cons_zero, List.getElem_cons_succ, List.setIfInBounds_toArray, List.set_cons_zero, List.set_cons_succ]
      refine wpAnyH_take (i := 5) (v := ?_) rfl (by kernel_rfl) (by kernel_rfl) (by kernel_rfl) (fun _ _ _ h => h.elim) (Or.inl ⟨by rfl, ?_⟩) (by assumption) ?_
      rotate_left
      · intro wx hSw
        try dsimp only at hSw
        go_simp
        try with_reducible rfl
      try simp only [Act.put, List.getElem_toArray, List.getElem_cons_zero, List.getElem_cons_succ, List.setIfInBounds_toArray, List.set_cons_zero, List.set_cons_succ]
      refine wpAnyH_take (i := 6) (v := ?_) rfl (by kernel_rfl) (by kernel_rfl) (by kernel_rfl) (fun _ _ _ h => h.elim) (Or.inl ⟨by rfl, ?_⟩) (by assumption) ?_
      rotate_left
      · intro wx hSw
        try dsimp only at hSw
        go_simp
        try with_reducible rfl
      try simp only [Act.put, List.getElem_toArray, List.getElem_cons_zero, List.getElem_cons_succ, List.setIfInBounds_toArray, List.set_cons_zero, List.set_cons_succ]
      refine wpAnyH_take (i := 7) (v := ?_) rfl (by kernel_rfl) (by kernel_rfl) (by kernel_rfl) (fun _ _ _ h => h.elim) (Or.inl ⟨by rfl, ?_⟩) (by assumption) ?_
      rotate_left
      · intro wx hSw
        try dsimp only at hSw
        go_simp
        try with_reducible rfl
      try simp only [Act.put, List.getElem_toArray, List.getElem_cons_zero, List.getElem_cons_succ, List.setIfInBounds_toArray, List.set_cons_zero, List.set_cons_succ]
      refine wpAnyH_take (i := 8) (v := ?_) rfl (by kernel_rfl) (by kernel_rfl) (by kernel_rfl) (fun _ _ _ h => h.elim) (Or.inl ⟨by rfl, ?_⟩) (by assumption) ?_
      rotate_left
      · intro wx hSw
        try dsimp only at hSw
        go_simp
        try with_reducible rfl
      try simp only [Act.put, List.getElem_toArray, List.getElem_cons_zero, List.getElem_cons_succ, List.setIfInBounds_toArray, List.set_cons_zero, List.set_cons_succ]
      refine wpAnyH_take (i := 9) (v := ?_) rfl (by kernel_rfl) (by kernel_rfl) (by kernel_rfl) (fun _ _ _ h => h.elim) (Or.inl ⟨by rfl, ?_⟩) (by assumption) ?_
      rotate_left
      · intro wx hSw
        try dsimp only at hSw
        go_simp
        try with_reducible rfl
      try simp only [Act.put, List.getElem_toArray, List.getElem_cons_zero, List.getElem_cons_succ, List.setIfInBounds_toArray, List.set_cons_zero, List.set_cons_succ]
      refine wpAnyH_take (i := 10) (v := ?_) rfl (by kernel_rfl) (by kernel_rfl) (by kernel_rfl) (fun _ _ _ h => h.elim) (Or.inl ⟨by rfl, ?_⟩) (by assumption) ?_
      rotate_left
      · intro wx hSw
        try dsimp only at hSw
        go_simp
        try with_reducible rfl
      try simp only [Act.put, List.getElem_toArray, List.getElem_cons_zero, List.getElem_cons_succ, List.setIfInBounds_toArray, List.set_cons_zero, List.set_cons_succ]
      refine wpAnyH_ready (rs := [11]) (by kernel_rfl) (by simp) ?_
      refine AllReadyH.cons rfl (fun K hK => ?_) ?_
      · go_simp
        refine (HAc.out _ D1.below).mono ?_
        rintro e w4 ⟨rfl, hb4⟩
        have I4 := D1.upto hb4
        refine hK.out _ _ ?_ (fun hHeld => ?_)
        · first | exact HS.out _ _ _ I5 | exact HS.out _ _ _ (I4.upto (box1 _ _)) | exact HS.out _ _ _ I4 | exact HS.out _ _ _ D1
        clear hK K
        try simp only [Act.put, List.getElem_toArray, List.getElem_cons_zero, List.getElem_cons_succ, List.setIfInBounds_toArray, List.set_cons_zero, List.set_cons_succ]
        refine wpAnyH_ready (rs := [12]) (by kernel_rfl) (by simp) ?_
        refine AllReadyH.cons rfl (fun K hK => ?_) ?_
        · go_simp
          refine hK.out _ _ ?_ (fun hHeld => ?_)
          · first | exact HS.out _ _ _ I5 | exact HS.out _ _ _ (I4.upto (box1 _ _)) | exact HS.out _ _ _ I4 | exact HS.out _ _ _ D1
          clear hK K
          try simp only [Act.put, List.getElem_toArray, List.getElem_cons_zero, List.getElem_cons_succ, List.setIfInBounds_toArray, List.set_cons_zero, List.set_cons_succ]
          refine wpAnyH_ready (rs := [13]) (by kernel_rfl) (by simp) ?_
          refine AllReadyH.cons rfl (fun K hK => ?_) ?_
          · refine step_append_row rfl _ _ 43 rfl 3 fi (.int .i64 0) 1 8 Tryd.underlying43 hf hz h1 h8 rfl (by decide) u12 i _ (by simp [Act.eval]) (I4.upto (box1 _ _)).row ⟨w4.heap.size, 0, none⟩ 1 1 [nv c] (by simp [Act.eval]) rfl (nv_new w4 c) (one_nv c) hm1 hm2 ?_
            intro v' w5 hown hgrow hloc
            have I5 := (I4.upto (box1 _ _)).next (by rw [Hcc.out]; exact hown) hgrow hloc
            refine hK.out _ _ ?_ (fun hHeld => ?_)
            · first | exact HS.out _ _ _ I5 | exact HS.out _ _ _ (I4.upto (box1 _ _)) | exact HS.out _ _ _ I4 | exact HS.out _ _ _ D1
            clear hK K
            try simp only [Act.put, List.getElem_toArray, List.getElem_cons_zero, List.getElem_cons_succ, List.setIfInBounds_toArray, List.set_cons_zero, List.set_cons_succ]
            refine wpAnyH_ready (rs := [14]) (by kernel_rfl) (by simp) ?_
            refine AllReadyH.cons rfl (fun K hK => ?_) ?_
            · go_simp
              refine hK.out _ _ ?_ (fun hHeld => ?_)
              · first | exact HS.out _ _ _ I5 | exact HS.out _ _ _ (I4.upto (box1 _ _)) | exact HS.out _ _ _ I4 | exact HS.out _ _ _ D1
              clear hK K
              try simp only [Act.put, List.getElem_toArray, List.getElem_cons_zero, List.getElem_cons_succ, List.setIfInBounds_toArray, List.set_cons_zero, List.set_cons_succ]
              refine wpAnyH_done (by kernel_rfl) ?_ _
              show Exit.inBlock 1 _ Exit.normal _ _
              go_wp2_with fail
              go_roundw
              case rel => exact ⟨i + 1, by omega, by go_num, I5⟩
              case measure => simp [intOf]; omega
            exact AllReadyH.nil
          exact AllReadyH.nil
        exact AllReadyH.nil
      exact AllReadyH.nil
    · obtain rfl : N = i := by omega
      have hli : ¬ ((N : Nat) : Int) < (N : Nat) := by omega
      clear HA1 A HI0
      obtain ⟨n', hn'⟩ : ∃ n', N = n' + 1 := ⟨N - 1, by omega⟩
      obtain ⟨g, cap, hvw, hWg⟩ := Wg.of (n := n') (l := (List.range N).map (clrK car wd)) (by rw [← hn']; exact hI.row) (by simp [hn'])
      rw [← hn'] at hvw
      subst hvw
      have hgN : X0.heap.size ≤ g := Nat.le_trans HOb.out.2.2 (hI.own g rfl)
      have J0 : I2 w X0.heap.size p q r b w3.heap.size g cap cl wd ht N tl bm t1 rt 0 wr := by
        have car' := HCar.out
        subst car'
        have zz := HOb.out
        have z1 := hI.below.size
        refine ⟨L, 0, L, [], 64 * L.length, b1, .slice none 0 0, rb, .slice none 0 0, ⟨HV.out.below hI.below, HF.out, HFd.out.upto hI.below, HSz.out.upto hI.below, hI.al, HNb.out, ⟨by simp [Value.ownBlock], by simp [Value.ownBlock]⟩, Nat.zero_le _, Apt.refl _, by simp, ?_, ⟨zz.2.1, zz.1, hgN, by omega⟩⟩, hWg, ⟨Nat.zero_le _, by have := HLl.out; omega⟩, bt HB2.out hI.below⟩
        obtain ⟨cur, h1, -⟩ := hWg
        exact ⟨cur, h1⟩
      have HJ0 := hide J0
      have HgN := hide hgN
      have hcapN : N ≤ cap := by simpa using hWg.room
      clear J0 hgN hI hWg hn'
      go_wp2_with fail
      clear n2 n3
      go_loopw [15] (fun d wr => ∃ k : Nat, k ≤ Ks.length ∧ d = .int .i64 (k : Nat) ∧ I2 w X0.heap.size p q r b w3.heap.size g cap cl wd ht N tl bm t1 rt k wr) (fun d _ => Ks.length - (intOf d).toNat)
      case atStart => exact ⟨0, by omega, rfl, HJ0.out⟩
      case round =>
        rename World => wo
        obtain ⟨k, hk, rfl, hJ⟩ := hrel
        have HJ := hide hJ
        by_cases hlt : k < Ks.length
        · have hli : ((k : Nat) : Int) < (Ks.length : Nat) := by omega
          have hkI : (0 : Int) ≤ (k : Nat) ∧ ((k : Nat) : Int) ≤ 60 := by omega
          obtain ⟨t, htt⟩ : ∃ t, Ks[k]? = some t := ⟨_, List.getElem?_eq_getElem hlt⟩
          have hEd := (HKs.out k t htt).kept (Nat.le_refl _) (show Below w.heap.size w _ from by obtain ⟨_, _, _, _, _, _, _, _, _, -, -, -, h⟩ := hJ; exact h)
          obtain ⟨g3, o, rfl, -, c0, c1, c2, c3, c4, c5⟩ := hEd
          have HE := hide (hJ.edit HX0n.out (by omega) t.1 t.2)
          clear hJ htt
          go_wp2_with fail
          refine HE.out.mono ?_
          rintro e w5 ⟨⟨v, rfl⟩, hJ5⟩
          have HJ5 := hide hJ5
          clear HE HJ hJ5 c0 c1 c2 c3 c4 c5
          obtain ⟨km, hkm⟩ : ∃ km : Nat, k % 3 = km := ⟨_, rfl⟩
          have hkm1 : (k : Int).tmod 3 = (km : Nat) := by rw [← hkm]; rfl
          have hkm2 : (k : Int) % 3 = (km : Nat) := by rw [← hkm]; exact (Int.natCast_emod k 3).symm
          have hkmb : km < 3 := by omega
          clear hkm
          by_cases hc2 : km = 2
          · subst hc2
            go_wp2_with fail
            refine (HJ5.out.update HX0n.out (by omega) HM.out HG.out HO.out hwd HN.out).mono ?_
            rintro e w6 ⟨l0, l, es, n, bv, ev, rb, re, rfl, h3, hkn⟩
            have H3 := hide h3
            have HKn := hide hkn
            obtain ⟨f0, hf0⟩ : ∃ f0, clrK (carB wd ht tl (whoF l0) cl) wd = f0 := ⟨_, rfl⟩
            obtain ⟨car2, hcar2⟩ : ∃ car2, carB wd ht tl (whoF l) cl = car2 := ⟨_, rfl⟩
            rw [hf0] at H3 ⊢
            rw [hcar2]
            have HC2 := hide hcar2
            obtain ⟨cn, hcn⟩ : ∃ cn, cntK car2 wd ((List.range N).map f0) N = cn := ⟨_, rfl⟩
            rw [hcn]
            have HCn := hide hcn
            clear hf0 hcar2 hcn h3 hkn HJ5
            go_wp2_with fail
            rename World => wi6
            go_loopw [18, 19] (fun a d wr => ∃ j : Nat, j ≤ N ∧ (a = .int .i64 ((cntK car2 wd ((List.range N).map f0) j : Nat) : Int) ∧ d = .int .i64 (j : Nat)) ∧ I3 w X0.heap.size p q r b w3.heap.size g cap cl wd ht N tl bm t1 rt f0 l es n bv ev rb re j wr) (fun _ d _ => N - (intOf d).toNat)
            case atStart => exact ⟨0, by omega, ⟨by simp [cntK], rfl⟩, H3.out⟩
            case round =>
              obtain ⟨j, hj, ⟨rfl, rfl⟩, h3⟩ := hrel
              have hcl : cntK car2 wd ((List.range N).map f0) j ≤ j := cntK_le _ _ _ _
              have hnx := cntK_succ car2 wd ((List.range N).map f0) j
              obtain ⟨m, hm⟩ : ∃ m, cntK car2 wd ((List.range N).map f0) j = m := ⟨_, rfl⟩
              rw [hm] at hcl hnx ⊢
              have h3' := hide h3
              by_cases hjl : j < N
              · have hji : ((j : Nat) : Int) < (N : Nat) := by omega
                have hjI : (0 : Int) ≤ (j : Nat) ∧ ((j : Nat) : Int) ≤ 16384 := by omega
                have hmI : (0 : Int) ≤ (m : Nat) ∧ ((m : Nat) : Int) ≤ 16384 := by omega
                obtain ⟨kx, hkx⟩ : ∃ kx : Int, ((j % wd : Nat) : Int) = kx := ⟨_, rfl⟩
                obtain ⟨ky, hky⟩ : ∃ ky : Int, ((j / wd : Nat) : Int) = ky := ⟨_, rfl⟩
                have hrem : (j : Int).tmod (wd : Int) = kx := hkx
                have hrem2 : (j : Int) % (wd : Int) = kx := by rw [← hkx]; exact (Int.natCast_emod j wd).symm
                have hquo : IntKind.i64.wrap ((j : Int) / (wd : Int)) = ky := by
                  rw [← hky, ← Int.natCast_ediv]
                  exact wrap_nat (Nat.le_trans (Nat.div_le_self j wd) (by omega))
                have hc0 : clrK car2 wd j = clr car2 kx ky := by unfold clrK; rw [hkx, hky]
                obtain ⟨c, hcc⟩ : ∃ c, clrK car2 wd j = c := ⟨_, rfl⟩
                rw [hcc, getD_range f0 hjl] at hnx
                have H1 : Hid (∀ m : Lat wr, Calls Tryd.prog 15 #[ptr p, cel kx ky] m.w fun e w' => e = .returned (.int .i64 (c : Nat)) ∧ Below m.w.heap.size m.w w') := hide fun m => by rw [← hcc, hc0, ← HC2.out]; exact HAtw.out m.w l _ (h3.upto m.h).1.fd (h3.upto m.h).1.sz kx ky
                have d2 : ∀ m : Lat wr, m.w.cell? ⟨w3.heap.size, 2, none⟩ = some (.int .i64 wd) := fun m => cell_of_row _ w3.heap.size 2 _ _ _ (h3.upto m.h).1.al
                have hne := lat_some wr
                have Hcc := hide hcc
                have Hnx := hide hnx
                clear hkx hky hc0 hcc hnx hm h3
                go_wp2_with fail
                refine wp_region_lat (by kernel_rfl) (by kernel_rfl) ?_
                repeat (go_big_quiet_step (first | (go_at_call 15; exact calls_lat (H1.out _))))
                refine wpQuiet_nil ?_
                rintro _ ⟨m4, rfl⟩
                have h4 := h3'.out.upto m4.h
                have cu : m4.w.cell? ⟨g, j, none⟩ = some (.int .i64 (f0 j : Nat)) := h4.2.1.c (mix_at _ _ hjl)
                have fu : m4.w.frozen? ⟨g, j, none⟩ = false := h4.2.1.f j
                have H4 := hide (h4.put HX0n.out (c := c) (by rw [HC2.out]; exact Hcc.out))
                obtain ⟨u, hu⟩ : ∃ u, f0 j = u := ⟨_, rfl⟩
                rw [hu] at cu Hnx
                clear h4 hu d2 hne H1
                by_cases hec : u = c
                · subst hec
                  go_wp2_with fail
                  go_roundw
                  case rel => exact ⟨j + 1, by omega, ⟨by rw [Hnx.out, if_pos rfl]; rfl, by go_num⟩, H4.out⟩
                  case measure => simp [intOf]; omega
                · have hec1 : ¬ c = u := fun e => hec e.symm
                  have hec2 : ¬ ((c : Nat) : Int) = (u : Nat) := by omega
                  have hec3 : ¬ ((u : Nat) : Int) = (c : Nat) := by omega
                  go_wp2_with fail
                  go_roundw
                  case rel => exact ⟨j + 1, by omega, ⟨by rw [Hnx.out, if_neg hec]; go_num, by go_num⟩, H4.out⟩
                  case measure => simp [intOf]; omega
              · obtain rfl : N = j := by omega
                have hji : ¬ ((N : Nat) : Int) < (N : Nat) := by omega
                have hmc : m = cn := by rw [← hm]; exact HCn.out
                subst hmc
                clear hm hnx
                have H13 := hide (fepoch_is h3.1.fd)
                have H18 := hide (epoch_is h3.1.bo.ep)
                have H11 := hide (right_any h3.1.fd (by rw [← HN.out]; exact h3.1.sz) hwd HN.out (h3.1.bo.rl HM.out h3.1.fine.len))
                have H2 := hide (h3.over HKn.out)
                clear h3 h3'
                go_wp2_with fail
                refine H13.out.mono ?_
                rintro e w7 ⟨rfl, hw7⟩
                subst hw7
                go_wp2_with fail
                refine H18.out.mono ?_
                rintro e w8 ⟨rfl, hw8⟩
                subst hw8
                go_wp2_with fail
                refine H11.out.mono ?_
                rintro e w9 ⟨rfl, hb9⟩
                have H9 := hide (H2.out.upto hb9)
                clear hb9
                go_wp2_with fail
                go_roundw
                case rel => exact ⟨k + 1, by omega, by go_num, H9.out⟩
                case measure => simp [intOf]; omega
          · have hc3 : ¬ ((km : Nat) : Int) = 2 := by omega
            by_cases hl1 : k + 1 < Ks.length
            · have hl2 : ((k : Nat) : Int) + 1 < (Ks.length : Nat) := by omega
              go_wp2_with fail
              go_roundw
              case rel => exact ⟨k + 1, by omega, by go_num, HJ5.out⟩
              case measure => simp [intOf]; omega
            · have hl2 : ¬ ((k : Nat) : Int) + 1 < (Ks.length : Nat) := by omega
              go_wp2_with fail
              refine (HJ5.out.update HX0n.out (by omega) HM.out HG.out HO.out hwd HN.out).mono ?_
              rintro e w6 ⟨l0, l, es, n, bv, ev, rb, re, rfl, h3, hkn⟩
              have H3 := hide h3
              have HKn := hide hkn
              obtain ⟨f0, hf0⟩ : ∃ f0, clrK (carB wd ht tl (whoF l0) cl) wd = f0 := ⟨_, rfl⟩
              obtain ⟨car2, hcar2⟩ : ∃ car2, carB wd ht tl (whoF l) cl = car2 := ⟨_, rfl⟩
              rw [hf0] at H3 ⊢
              rw [hcar2]
              have HC2 := hide hcar2
              obtain ⟨cn, hcn⟩ : ∃ cn, cntK car2 wd ((List.range N).map f0) N = cn := ⟨_, rfl⟩
              rw [hcn]
              have HCn := hide hcn
              clear hf0 hcar2 hcn h3 hkn HJ5
              go_wp2_with fail
              rename World => wi6
              go_loopw [18, 19] (fun a d wr => ∃ j : Nat, j ≤ N ∧ (a = .int .i64 ((cntK car2 wd ((List.range N).map f0) j : Nat) : Int) ∧ d = .int .i64 (j : Nat)) ∧ I3 w X0.heap.size p q r b w3.heap.size g cap cl wd ht N tl bm t1 rt f0 l es n bv ev rb re j wr) (fun _ d _ => N - (intOf d).toNat)
              case atStart => exact ⟨0, by omega, ⟨by simp [cntK], rfl⟩, H3.out⟩
              case round =>
                obtain ⟨j, hj, ⟨rfl, rfl⟩, h3⟩ := hrel
                have hcl : cntK car2 wd ((List.range N).map f0) j ≤ j := cntK_le _ _ _ _
                have hnx := cntK_succ car2 wd ((List.range N).map f0) j
                obtain ⟨m, hm⟩ : ∃ m, cntK car2 wd ((List.range N).map f0) j = m := ⟨_, rfl⟩
                rw [hm] at hcl hnx ⊢
                have h3' := hide h3
                by_cases hjl : j < N
                · have hji : ((j : Nat) : Int) < (N : Nat) := by omega
                  have hjI : (0 : Int) ≤ (j : Nat) ∧ ((j : Nat) : Int) ≤ 16384 := by omega
                  have hmI : (0 : Int) ≤ (m : Nat) ∧ ((m : Nat) : Int) ≤ 16384 := by omega
                  obtain ⟨kx, hkx⟩ : ∃ kx : Int, ((j % wd : Nat) : Int) = kx := ⟨_, rfl⟩
                  obtain ⟨ky, hky⟩ : ∃ ky : Int, ((j / wd : Nat) : Int) = ky := ⟨_, rfl⟩
                  have hrem : (j : Int).tmod (wd : Int) = kx := hkx
                  have hrem2 : (j : Int) % (wd : Int) = kx := by rw [← hkx]; exact (Int.natCast_emod j wd).symm
                  have hquo : IntKind.i64.wrap ((j : Int) / (wd : Int)) = ky := by
                    rw [← hky, ← Int.natCast_ediv]
                    exact wrap_nat (Nat.le_trans (Nat.div_le_self j wd) (by omega))
                  have hc0 : clrK car2 wd j = clr car2 kx ky := by unfold clrK; rw [hkx, hky]
                  obtain ⟨c, hcc⟩ : ∃ c, clrK car2 wd j = c := ⟨_, rfl⟩
                  rw [hcc, getD_range f0 hjl] at hnx
                  have H1 : Hid (∀ m : Lat wr, Calls Tryd.prog 15 #[ptr p, cel kx ky] m.w fun e w' => e = .returned (.int .i64 (c : Nat)) ∧ Below m.w.heap.size m.w w') := hide fun m => by rw [← hcc, hc0, ← HC2.out]; exact HAtw.out m.w l _ (h3.upto m.h).1.fd (h3.upto m.h).1.sz kx ky
                  have d2 : ∀ m : Lat wr, m.w.cell? ⟨w3.heap.size, 2, none⟩ = some (.int .i64 wd) := fun m => cell_of_row _ w3.heap.size 2 _ _ _ (h3.upto m.h).1.al
                  have hne := lat_some wr
                  have Hcc := hide hcc
                  have Hnx := hide hnx
                  clear hkx hky hc0 hcc hnx hm h3
                  go_wp2_with fail
                  refine wp_region_lat (by kernel_rfl) (by kernel_rfl) ?_
                  repeat (go_big_quiet_step (first | (go_at_call 15; exact calls_lat (H1.out _))))
                  refine wpQuiet_nil ?_
                  rintro _ ⟨m4, rfl⟩
                  have h4 := h3'.out.upto m4.h
                  have cu : m4.w.cell? ⟨g, j, none⟩ = some (.int .i64 (f0 j : Nat)) := h4.2.1.c (mix_at _ _ hjl)
                  have fu : m4.w.frozen? ⟨g, j, none⟩ = false := h4.2.1.f j
                  have H4 := hide (h4.put HX0n.out (c := c) (by rw [HC2.out]; exact Hcc.out))
                  obtain ⟨u, hu⟩ : ∃ u, f0 j = u := ⟨_, rfl⟩
                  rw [hu] at cu Hnx
                  clear h4 hu d2 hne H1
                  by_cases hec : u = c
                  · subst hec
                    go_wp2_with fail
                    go_roundw
                    case rel => exact ⟨j + 1, by omega, ⟨by rw [Hnx.out, if_pos rfl]; rfl, by go_num⟩, H4.out⟩
                    case measure => simp [intOf]; omega
                  · have hec1 : ¬ c = u := fun e => hec e.symm
                    have hec2 : ¬ ((c : Nat) : Int) = (u : Nat) := by omega
                    have hec3 : ¬ ((u : Nat) : Int) = (c : Nat) := by omega
                    go_wp2_with fail
                    go_roundw
                    case rel => exact ⟨j + 1, by omega, ⟨by rw [Hnx.out, if_neg hec]; go_num, by go_num⟩, H4.out⟩
                    case measure => simp [intOf]; omega
                · obtain rfl : N = j := by omega
                  have hji : ¬ ((N : Nat) : Int) < (N : Nat) := by omega
                  have hmc : m = cn := by rw [← hm]; exact HCn.out
                  subst hmc
                  clear hm hnx
                  have H13 := hide (fepoch_is h3.1.fd)
                  have H18 := hide (epoch_is h3.1.bo.ep)
                  have H11 := hide (right_any h3.1.fd (by rw [← HN.out]; exact h3.1.sz) hwd HN.out (h3.1.bo.rl HM.out h3.1.fine.len))
                  have H2 := hide (h3.over HKn.out)
                  clear h3 h3'
                  go_wp2_with fail
                  refine H13.out.mono ?_
                  rintro e w7 ⟨rfl, hw7⟩
                  subst hw7
                  go_wp2_with fail
                  refine H18.out.mono ?_
                  rintro e w8 ⟨rfl, hw8⟩
                  subst hw8
                  go_wp2_with fail
                  refine H11.out.mono ?_
                  rintro e w9 ⟨rfl, hb9⟩
                  have H9 := hide (H2.out.upto hb9)
                  clear hb9
                  go_wp2_with fail
                  go_roundw
                  case rel => exact ⟨k + 1, by omega, by go_num, H9.out⟩
                  case measure => simp [intOf]; omega
        · have hli : ¬ ((k : Nat) : Int) < (Ks.length : Nat) := by omega
          have hB : Below w.heap.size w wo := by obtain ⟨_, _, _, _, _, _, _, _, _, -, -, -, h⟩ := hJ; exact h
          have HBo2 := hide hB
          clear hJ hB
          go_wp2_with fail
          refine (HA.out _ HBo2.out).mono ?_
          rintro e w9 ⟨rfl, hb9⟩
          have H9 := hide (bt HBo2.out hb9)
          clear hb9
          go_wp2_with fail
          go_ret
          exact ⟨rfl, H9.out⟩
end Go.Proofs.YtnoodnmbghfchaaDoor
