/-
  phalanxlaw07.right, and phalanxlaw07.ClearOf, walked.
-/
import Derived.Test.YtnoodnmbghfchaaDoorAw
set_option linter.unusedSimpArgs false
namespace Go.Proofs.YtnoodnmbghfchaaDoor
open Go.RowKit Go.Shelf
set_option linter.unusedVariables false
/-- A field that is right tells each cell's clearance. -/
theorem at_clr {car : Int → Int → Bool} {wd ht : Nat} (hwd : wd ≤ 128 ∧ ht ≤ 128) (hcar : ∀ x y, car x y = true → has 0 0 (wd : Int) (ht : Int) x y = true) (x y : Int) :
    atL wd ht ((List.range (wd * ht)).map (clrK car wd)) x y = clr car x y := by
  unfold atL
  split
  · rename_i hh
    have hin := (has_in hwd).1 hh
    obtain ⟨X, rfl⟩ := Int.eq_ofNat_of_zero_le hin.1.1
    obtain ⟨Y, rfl⟩ := Int.eq_ofNat_of_zero_le hin.2.1
    have hk := idx_lt (w := wd) (h := ht) (x := X) (y := Y) (by omega) (by omega)
    have e1 : (((Y : Int) * (wd : Int)) + (X : Int)).toNat = Y * wd + X := by
      rw [show ((Y : Int) * (wd : Int)) + (X : Int) = ((Y * wd + X : Nat) : Int) by simp, Int.toNat_natCast]
    rw [e1, List.getD_eq_getElem?_getD, List.getElem?_map, List.getElem?_range hk]
    simp only [Option.map_some, Option.getD_some, clrK]
    rw [(idx_mod (w := wd) (x := X) (y := Y) (by omega)).1, (idx_mod (w := wd) (x := X) (y := Y) (by omega)).2]
  · rename_i hh
    refine (clr_no ?_).symm
    rw [Bool.eq_false_iff]
    exact fun hc => hh (hcar _ _ hc)
set_option maxRecDepth 100000 in
set_option maxHeartbeats 8000000 in
theorem right_any {w : World} {p q r b n : Nat} {cl ep : Int} {wd ht : Nat} {tl : List Nat} {L : List Bd} (hd : Fd w p q cl wd ht b n ep) (hs : Szs w b ((List.range (wd * ht)).map (clrK (carB wd ht tl (whoF L) cl) wd))) (hwd : (1 ≤ wd ∧ wd ≤ 128) ∧ 1 ≤ ht ∧ ht ≤ 128) (hn : n = wd * ht) (hR : Rl w r wd ht tl L) :
    Calls Tryd.prog 11 #[ptr p, ptr r, .int .i64 cl] w fun e w' => e = .returned (.bool true) ∧ Below w.heap.size w w' := by
  have HAt : Hid (∀ wx, Below w.heap.size w wx → ∀ x y, Calls Tryd.prog 15 #[ptr p, cel x y] wx fun e w' => e = .returned (.int .i64 (clr (carB wd ht tl (whoF L) cl) x y : Nat)) ∧ Below wx.heap.size wx w') := hide fun wx hx x y =>
    fat_is x y (at_clr ⟨hwd.1.2, hwd.2.2⟩ (fun x y h => car_has h) x y) (hd.upto hx) (hs.upto hx) ⟨hwd.1.2, hwd.2.2⟩ (by simp) (by simp [hn]) (clr_bytes _ _ _)
  have HCl : Hid (∀ wx, Below w.heap.size w wx → ∀ x y, Calls Tryd.prog 12 #[ptr r, .int .i64 cl, cel x y] wx fun e w' => e = .returned (.int .i64 (clr (carB wd ht tl (whoF L) cl) x y : Nat)) ∧ Below wx.heap.size wx w') := hide fun wx hx x y => refclear_any cl x y (hR.kept hx)
  have HA := hide (refall_is hR)
  have hwI : (1 : Int) ≤ (wd : Nat) ∧ ((wd : Nat) : Int) ≤ 128 := by omega
  have hhI : (1 : Int) ≤ (ht : Nat) ∧ ((ht : Nat) : Int) ≤ 128 := by omega
  clear hd hs hR
  go_enter Tryd.func11, Tryd.ntmps11
  go_wp2_with fail
  refine HA.out.mono ?_
  rintro e w1 ⟨rfl, hb1⟩
  have FX : Four (w1.alloc (.cells #[.int .i64 0, .int .i64 0, .int .i64 wd, .int .i64 ht] 45)) w1.heap.size 0 0 wd ht := cells4 (Below.refl _ _)
  have BX : Below w.heap.size w (w1.alloc (.cells #[.int .i64 0, .int .i64 0, .int .i64 wd, .int .i64 ht] 45)) := bt hb1 (box1 _ _)
  obtain ⟨X, hX⟩ : ∃ X, w1.alloc (.cells #[.int .i64 0, .int .i64 0, .int .i64 wd, .int .i64 ht] 45) = X := ⟨_, rfl⟩
  rw [hX] at FX BX
  obtain ⟨d0, d1, d2, d3⟩ := FX.lat
  clear HA hb1
  go_wp2_with fail
  go_loopw [8] (fun d wr => ∃ j : Nat, j ≤ ht + 2 ∧ d = .int .i64 ((j : Int) - 1) ∧ ∃ m : Lat X, wr = m.w) (fun d _ => ht + 2 - (intOf d + 1).toNat)
  case atStart => exact ⟨0, by omega, by simp, ⟨X, Below.refl _ _⟩, rfl⟩
  case round =>
    obtain ⟨j, hj, rfl, m, rfl⟩ := hrel
    have n3 := d3 m
    have n2 := d2 m
    clear hX
    obtain ⟨y, hy⟩ : ∃ y : Int, (j : Int) - 1 = y := ⟨_, rfl⟩
    have Hy := hide hy
    have hyr : -1 ≤ y ∧ y ≤ 129 := by omega
    rw [hy]
    by_cases hlt : j < ht + 2
    · have hli : y ≤ (ht : Nat) := by omega
      clear hy
      go_wp2_with fail
      clear n3 n2
      rename Value => o9
      go_loopw [9] (fun d wr => ∃ i : Nat, i ≤ wd + 2 ∧ d = .int .i64 ((i : Int) - 1) ∧ ∃ m : Lat X, wr = m.w) (fun d _ => wd + 2 - (intOf d + 1).toNat)
      case atStart => exact ⟨0, by omega, by simp, m, rfl⟩
      case round =>
        obtain ⟨i, hi, rfl, m3, rfl⟩ := hrel
        have n2 := d2 m3
        obtain ⟨x, hx⟩ : ∃ x : Int, (i : Int) - 1 = x := ⟨_, rfl⟩
        have Hx := hide hx
        have hxr : -1 ≤ x ∧ x ≤ 129 := by omega
        rw [hx]
        by_cases hil : i < wd + 2
        · have hui : x ≤ (wd : Nat) := by omega
          have T3 : Two (m3.w.alloc (.cells #[.int .i64 x, .int .i64 y] 27)) m3.w.heap.size x y := Two.newAt rfl
          have B3 : Below X.heap.size X (m3.w.alloc (.cells #[.int .i64 x, .int .i64 y] 27)) := bt m3.h (box1 _ _)
          obtain ⟨V, hV⟩ : ∃ V, m3.w.alloc (.cells #[.int .i64 x, .int .i64 y] 27) = V := ⟨_, rfl⟩
          rw [hV] at T3 B3
          obtain ⟨t0, t1⟩ := T3.lat
          have hne := lat_some V
          obtain ⟨c, hc⟩ : ∃ c, clr (carB wd ht tl (whoF L) cl) x y = c := ⟨_, rfl⟩
          have H1 : Hid (∀ m : Lat V, Calls Tryd.prog 15 #[ptr p, cel x y] m.w fun e w' => e = .returned (.int .i64 (c : Nat)) ∧ Below m.w.heap.size m.w w') := hide fun m => by rw [← hc]; exact HAt.out _ (bt BX (bt B3 m.h)) x y
          have H2 : Hid (∀ m : Lat V, Calls Tryd.prog 12 #[ptr r, .int .i64 cl, cel x y] m.w fun e w' => e = .returned (.int .i64 (c : Nat)) ∧ Below m.w.heap.size m.w w') := hide fun m => by rw [← hc]; exact HCl.out _ (bt BX (bt B3 m.h)) x y
          clear hx hc
          go_wp2_with fail
          clear hV n2
          refine wp_region_lat (by kernel_rfl) (by kernel_rfl) ?_
          repeat (go_big_quiet_step (first | (go_at_call 15; exact calls_lat (H1.out _)) | (go_at_call 12; exact calls_lat (H2.out _))))
          refine wpQuiet_nil ?_
          rintro _ ⟨m4, rfl⟩
          go_wp2_with fail
          go_roundw
          case rel => exact ⟨i + 1, by omega, by have := Hx.out; first | go_num | (congr 1; omega), ⟨m4.w, bt B3 m4.h⟩, rfl⟩
          case measure => have := Hx.out; simp [intOf]; omega
        · have hui : ¬ x ≤ (wd : Nat) := by omega
          go_wp2_with fail
          go_roundw
          case rel => exact ⟨j + 1, by omega, by have := Hy.out; first | go_num | (congr 1; omega), m3, rfl⟩
          case measure => have := Hy.out; simp [intOf]; omega
    · have hli : ¬ y ≤ (ht : Nat) := by omega
      go_wp2_with fail
      go_ret
      exact ⟨rfl, bt BX m.h⟩
end Go.Proofs.YtnoodnmbghfchaaDoor
