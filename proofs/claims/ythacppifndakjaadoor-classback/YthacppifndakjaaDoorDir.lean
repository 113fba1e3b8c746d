/-
  Dir of the package and of the reference: the least direction whose step leads there.
-/
import Derived.Test.YthacppifndakjaaDoorDirs
namespace Go.Proofs.YthacppifndakjaaDoor
open Go.RowKit
set_option linter.unusedVariables false
def hit (x y tx ty : Int) (k : Nat) : Bool := sB x y k && (decide (sX x y k = tx) && decide (sY x y k = ty))
def dirF (f : Nat → Bool) : Nat → Nat → Int
  | _, 0 => -1
  | k, n + 1 => if f k = true then (k : Int) else dirF f (k + 1) n
theorem dirF_hit {f : Nat → Bool} {k : Nat} (hk : k < 8) (h : f k = true) : dirF f k (8 - k) = k := by
  obtain ⟨n, hn⟩ : ∃ n, 8 - k = n + 1 := ⟨7 - k, by omega⟩
  rw [hn]; simp [dirF, h]
theorem dirF_miss {f : Nat → Bool} {k : Nat} (hk : k < 8) (h : f k = false) : dirF f k (8 - k) = dirF f (k + 1) (8 - (k + 1)) := by
  obtain ⟨n, hn⟩ : ∃ n, 8 - k = n + 1 := ⟨7 - k, by omega⟩
  have hn' : 8 - (k + 1) = n := by omega
  rw [hn, hn']; simp [dirF, h]
theorem dirF_end {f : Nat → Bool} : dirF f 8 (8 - 8) = -1 := rfl
def dirN (x y tx ty : Int) : Int := dirF (hit x y tx ty) 0 (8 - 0)
abbrev W2 (w : World) (x y tx ty : Int) : World := (w.alloc (.cells #[.int .i64 x, .int .i64 y] 25)).alloc (.cells #[.int .i64 tx, .int .i64 ty] 25)
theorem int8 {k : Nat} (h : ¬ k < 8) (h' : k ≤ 8) : k = 8 := by omega
set_option maxHeartbeats 1000000 in
theorem dir_any (x y tx ty : Int) (w : World) (ho : Offs w) :
    Calls Tryd.prog 47 #[.agg #[.int .i64 x, .int .i64 y], .agg #[.int .i64 tx, .int .i64 ty]] w fun e w' => e = .returned (.int .i64 (dirN x y tx ty)) ∧ Below w.heap.size w w' := by
  have Ho := hide ho
  clear ho
  go_enter Tryd.func47, Tryd.ntmps47
  go_wp2_with fail
  go_loopw [8] (fun i wr => ∃ k : Nat, k ≤ 8 ∧ i = .int .i64 k ∧ Hid (dirN x y tx ty = dirF (hit x y tx ty) k (8 - k)) ∧ Below (W2 w x y tx ty).heap.size (W2 w x y tx ty) wr) (fun i _ => (8 - intOf i).toNat)
  case atStart => exact ⟨0, by omega, rfl, rfl, Below.refl _ _⟩
  case round =>
    obtain ⟨k, hk, rfl, hd, hb⟩ := hrel
    obtain ⟨⟨c0, c1⟩, _, z0⟩ := cells2' hb
    obtain ⟨⟨e0, e1⟩, ⟨f0, f1⟩, z1⟩ := cells2'' hb
    have HB := hide (bt (box2 w _ _) hb)
    have Hb := hide hb
    have Hor := hide (Offs.kept Ho.out HB.out)
    clear hb
    by_cases hlt : k < 8
    · cases hs : sB x y k
      · have hh := hide (dirF_miss (f := hit x y tx ty) hlt (by simp [hit, hs]))
        go_wp2_with (go_at_call 45; refine (step_any _ _ _ _ Hor.out).mono ?_; rintro e w1 ⟨rfl, hb1⟩; obtain ⟨⟨e2, e3⟩, f2, f3⟩ := Below.two hb1 z1 e0 e1 f0 f1; have z2 := Nat.lt_of_lt_of_le z1 hb1.size; have Hb1 := hide hb1; clear hb1)
        go_roundw
        case rel => exact ⟨k + 1, by omega, by go_num, hd.out.trans hh.out, (Hb.out.trans (Hb1.out.mono Hb.out.size)).alloc (by have := Hb.out.size; have := Hb1.out.size; omega) _⟩
        case measure => simp [intOf]; omega
      · by_cases hx : sX x y k = tx
        · by_cases hy : sY x y k = ty
          · have hh := hide (dirF_hit (f := hit x y tx ty) hlt (by simp [hit, hs, hx, hy]))
            go_wp2_with (go_at_call 45; refine (step_any _ _ _ _ Hor.out).mono ?_; rintro e w1 ⟨rfl, hb1⟩; obtain ⟨⟨e2, e3⟩, f2, f3⟩ := Below.two hb1 z1 e0 e1 f0 f1; have z2 := Nat.lt_of_lt_of_le z1 hb1.size; have Hb1 := hide hb1; clear hb1)
            go_ret
            exact ⟨ret_int (hd.out.trans hh.out).symm, bt (bt HB.out Hb1.out) (box1 _ _)⟩
          · have hh := hide (dirF_miss (f := hit x y tx ty) hlt (by simp [hit, hs, hx, hy]))
            go_wp2_with (go_at_call 45; refine (step_any _ _ _ _ Hor.out).mono ?_; rintro e w1 ⟨rfl, hb1⟩; obtain ⟨⟨e2, e3⟩, f2, f3⟩ := Below.two hb1 z1 e0 e1 f0 f1; have z2 := Nat.lt_of_lt_of_le z1 hb1.size; have Hb1 := hide hb1; clear hb1)
            go_roundw
            case rel => exact ⟨k + 1, by omega, by go_num, hd.out.trans hh.out, (Hb.out.trans (Hb1.out.mono Hb.out.size)).alloc (by have := Hb.out.size; have := Hb1.out.size; omega) _⟩
            case measure => simp [intOf]; omega
        · have hh := hide (dirF_miss (f := hit x y tx ty) hlt (by simp [hit, hs, hx]))
          go_wp2_with (go_at_call 45; refine (step_any _ _ _ _ Hor.out).mono ?_; rintro e w1 ⟨rfl, hb1⟩; obtain ⟨⟨e2, e3⟩, f2, f3⟩ := Below.two hb1 z1 e0 e1 f0 f1; have z2 := Nat.lt_of_lt_of_le z1 hb1.size; have Hb1 := hide hb1; clear hb1)
          go_roundw
          case rel => exact ⟨k + 1, by omega, by go_num, hd.out.trans hh.out, (Hb.out.trans (Hb1.out.mono Hb.out.size)).alloc (by have := Hb.out.size; have := Hb1.out.size; omega) _⟩
          case measure => simp [intOf]; omega
    · obtain rfl := int8 hlt hk
      go_wp2_with fail
      go_ret
      exact ⟨ret_int (hd.out.trans dirF_end).symm, HB.out⟩
set_option maxHeartbeats 1000000 in
theorem refdir_any (x y tx ty : Int) (w : World) :
    Calls Tryd.prog 19 #[.agg #[.int .i64 x, .int .i64 y], .agg #[.int .i64 tx, .int .i64 ty]] w fun e w' => e = .returned (.int .i64 (dirN x y tx ty)) ∧ Below w.heap.size w w' := by
  go_enter Tryd.func19, Tryd.ntmps19
  go_wp2_with fail
  go_loopw [5] (fun i wr => ∃ k : Nat, k ≤ 8 ∧ i = .int .i64 k ∧ Hid (dirN x y tx ty = dirF (hit x y tx ty) k (8 - k)) ∧ Below (W2 w x y tx ty).heap.size (W2 w x y tx ty) wr) (fun i _ => (8 - intOf i).toNat)
  case atStart => exact ⟨0, by omega, rfl, rfl, Below.refl _ _⟩
  case round =>
    obtain ⟨k, hk, rfl, hd, hb⟩ := hrel
    obtain ⟨⟨c0, c1⟩, _, z0⟩ := cells2' hb
    obtain ⟨⟨e0, e1⟩, ⟨f0, f1⟩, z1⟩ := cells2'' hb
    have HB := hide (bt (box2 w _ _) hb)
    have Hb := hide hb
    clear hb
    by_cases hlt : k < 8
    · cases hs : sB x y k
      · have hh := hide (dirF_miss (f := hit x y tx ty) hlt (by simp [hit, hs]))
        go_wp2_with (go_at_call 43; refine (refstep_any _ _ _ _).mono ?_; rintro e w1 ⟨rfl, hb1⟩; obtain ⟨⟨e2, e3⟩, f2, f3⟩ := Below.two hb1 z1 e0 e1 f0 f1; have z2 := Nat.lt_of_lt_of_le z1 hb1.size; have Hb1 := hide hb1; clear hb1)
        go_roundw
        case rel => exact ⟨k + 1, by omega, by go_num, hd.out.trans hh.out, (Hb.out.trans (Hb1.out.mono Hb.out.size)).alloc (by have := Hb.out.size; have := Hb1.out.size; omega) _⟩
        case measure => simp [intOf]; omega
      · by_cases hx : sX x y k = tx
        · by_cases hy : sY x y k = ty
          · have hh := hide (dirF_hit (f := hit x y tx ty) hlt (by simp [hit, hs, hx, hy]))
            go_wp2_with (go_at_call 43; refine (refstep_any _ _ _ _).mono ?_; rintro e w1 ⟨rfl, hb1⟩; obtain ⟨⟨e2, e3⟩, f2, f3⟩ := Below.two hb1 z1 e0 e1 f0 f1; have z2 := Nat.lt_of_lt_of_le z1 hb1.size; have Hb1 := hide hb1; clear hb1)
            go_ret
            exact ⟨ret_int (hd.out.trans hh.out).symm, bt (bt HB.out Hb1.out) (box1 _ _)⟩
          · have hh := hide (dirF_miss (f := hit x y tx ty) hlt (by simp [hit, hs, hx, hy]))
            go_wp2_with (go_at_call 43; refine (refstep_any _ _ _ _).mono ?_; rintro e w1 ⟨rfl, hb1⟩; obtain ⟨⟨e2, e3⟩, f2, f3⟩ := Below.two hb1 z1 e0 e1 f0 f1; have z2 := Nat.lt_of_lt_of_le z1 hb1.size; have Hb1 := hide hb1; clear hb1)
            go_roundw
            case rel => exact ⟨k + 1, by omega, by go_num, hd.out.trans hh.out, (Hb.out.trans (Hb1.out.mono Hb.out.size)).alloc (by have := Hb.out.size; have := Hb1.out.size; omega) _⟩
            case measure => simp [intOf]; omega
        · have hh := hide (dirF_miss (f := hit x y tx ty) hlt (by simp [hit, hs, hx]))
          go_wp2_with (go_at_call 43; refine (refstep_any _ _ _ _).mono ?_; rintro e w1 ⟨rfl, hb1⟩; obtain ⟨⟨e2, e3⟩, f2, f3⟩ := Below.two hb1 z1 e0 e1 f0 f1; have z2 := Nat.lt_of_lt_of_le z1 hb1.size; have Hb1 := hide hb1; clear hb1)
          go_roundw
          case rel => exact ⟨k + 1, by omega, by go_num, hd.out.trans hh.out, (Hb.out.trans (Hb1.out.mono Hb.out.size)).alloc (by have := Hb.out.size; have := Hb1.out.size; omega) _⟩
          case measure => simp [intOf]; omega
    · obtain rfl := int8 hlt hk
      go_wp2_with fail
      go_ret
      exact ⟨ret_int (hd.out.trans dirF_end).symm, HB.out⟩
end Go.Proofs.YthacppifndakjaaDoor
