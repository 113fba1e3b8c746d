/-
  PartsNobody: parts that nobody made, nil and the zero ones.
-/
import Derived.Test.YtoheibfijpdmfaaDoorPMake
set_option linter.unusedSimpArgs false
namespace Go.Proofs.YtoheibfijpdmfaaDoor
open Go.RowKit Go.Shelf
set_option linter.unusedSectionVars false
variable [DecCn : ∀ (St : Nat → Bool) (Ad : Nat → Nat → Prop) (k i : Nat), Decidable (Cn St Ad k i)]
set_option linter.unusedVariables false
/-- Nobody's parts: made tells false, wherever. -/
def Dd (vp : Value) (w : World) : Prop := ∀ wx, Below w.heap.size w wx → (Calls Tryd.prog 36 #[vp] wx fun e w' => e = .returned (.bool false) ∧ w' = wx) ∧ (Calls Tryd.prog 19 #[vp] wx fun e w' => e = .returned (.int .i64 0) ∧ w' = wx) ∧ ∀ x y, Calls Tryd.prog 18 #[vp, cel x y] wx fun e w' => e = .returned (.int .i64 0) ∧ Below wx.heap.size wx w'
theorem Dd.nil (w : World) : Dd (.pointer none) w := fun wx _ => ⟨pmade_nil wx, plen_nil wx, fun x y => pat_nil x y wx⟩
theorem Dd.zero {w : World} {p : Nat} (hp : p < w.heap.size) (h : w.cell? ⟨p, 0, none⟩ = some (.pointer none)) : Dd (ptr p) w := fun wx hx => by
  have h1 := (hx.cell (p := ⟨p, 0, none⟩) hp).trans h
  exact ⟨pmade_zero h1, plen_zero h1, fun x y => pat_zero x y wx (Nat.lt_of_lt_of_le hp hx.size) h1⟩
section
variable {vp : Value} {w : World}
theorem Dd.upto {w' : World} (h : Dd vp w) (hb : Below w.heap.size w w') : Dd vp w' := fun wx hx => h wx (bt hb hx)
theorem Dd.upd (h : Dd vp w) : Calls Tryd.prog 16 #[vp] w fun e w' => e = .returned (.tuple #[.bool false, .int .i64 1]) ∧ w' = w := pupd_no vp w (h w (Below.refl _ _)).1
theorem Dd.first (h : Dd vp w) : Calls Tryd.prog 17 #[vp, .int .i64 1] w fun e w' => e = .returned (.tuple #[cel 0 0, .bool false]) ∧ Below w.heap.size w w' := pfirst_no vp 1 (fun wx hx => phas_of vp 1 0 false (by decide) (h wx hx).2.1)
theorem Dd.size (h : Dd vp w) : Calls Tryd.prog 20 #[vp, .int .i64 1] w fun e w' => e = .returned (.int .i64 0) ∧ w' = w := psize_no vp 1 (phas_of vp 1 0 false (by decide) (h w (Below.refl _ _)).2.1)
theorem Dd.len (h : Dd vp w) : Calls Tryd.prog 19 #[vp] w fun e w' => e = .returned (.int .i64 0) ∧ w' = w := (h w (Below.refl _ _)).2.1
theorem Dd.at (h : Dd vp w) (x y : Int) : Calls Tryd.prog 18 #[vp, cel x y] w fun e w' => e = .returned (.int .i64 0) ∧ Below w.heap.size w w' := (h w (Below.refl _ _)).2.2 x y
theorem Dd.join (h : Dd vp w) (x y u v : Int) : Calls Tryd.prog 14 #[vp, cel x y, cel u v] w fun e w' => e = .returned (.bool false) ∧ Below w.heap.size w w' := pjoin_zero vp x y u v w (fun wx hx => (h wx hx).2.2 x y)
end
abbrev zP : Array Value := #[.pointer none, .int .i64 0, .int .i64 0, .int .i64 0, .int .i64 0, .int .i64 0, .slice none 0 0, .slice none 0 0]
set_option maxRecDepth 100000 in
set_option maxHeartbeats 8000000 in
theorem nobody_walk (x y u v : Int) (w : World) (hg : Grnd w) (ho : Offs w) : Calls Tryd.prog 5 #[cel x y, cel u v] w fun e w' => e = .returned (.bool true) ∧ Below w.heap.size w w' := by
  have HG := hide hg
  have HO := hide ho
  clear hg ho
  obtain ⟨X, hX⟩ : ∃ X, (w.alloc (.cells #[.int .i64 x, .int .i64 y] 41)).alloc (.cells #[.int .i64 u, .int .i64 v] 41) = X := ⟨_, rfl⟩
  have B0 : Below w.heap.size w X := hX ▸ box2 _ _ _
  have b0 : Two X w.heap.size x y := hX ▸ (Two.newAt rfl).alloc
  have b1 : Two X (w.heap.size + 1) u v := by
    rw [← hX]; exact Two.newAt (by simp)
  have HB0 := hide B0
  have Hb0 := hide b0
  have Hb1 := hide b1
  have HX := hide hX
  clear hX B0 b0 b1
  have HR : Hid (∀ (vp : Value) (W : World), Below X.heap.size X W → Dd vp W → True) := hide fun _ _ _ _ => trivial
  go_enter Tryd.func5, Tryd.ntmps5
  go_wp2_with fail
  rw [HX.out]
  go_loopw [5] (fun d wr => ∃ k : Nat, k ≤ 2 ∧ d = .int .i64 (k : Nat) ∧ Below X.heap.size X wr) (fun d _ => 2 - (intOf d).toNat)
  case atStart => exact ⟨0, by omega, rfl, Below.refl _ _⟩
  case round =>
    obtain ⟨k, hk, rfl, hb⟩ := hrel
    have q0 := Hb0.out.kept hb
    have q1 := Hb1.out.kept hb
    have HB := hide hb
    clear hb
    match k, hk with
    | 0, _ =>
      have HD := hide (Dd.nil wr)
      go_wp2_with fail
      refine HD.out.upd.mono ?_
      rintro e w1 ⟨rfl, rfl⟩
      go_wp2_with fail
      refine HD.out.first.mono ?_
      rintro e w2 ⟨rfl, hb2⟩
      have B3 := bt hb2 (box1 w2 (.cells #[.int .i64 0, .int .i64 0] 41))
      have D3 := hide (HD.out.upto B3)
      have q3 := q0.kept B3
      have q4 := q1.kept B3
      have HB3 := hide (bt HB.out B3)
      obtain ⟨⟨r0, r1⟩, -, -⟩ := id q3
      obtain ⟨⟨r2, r3⟩, -, -⟩ := id q4
      clear B3 hb2 HD q0 q1
      go_wp2_with fail
      refine (D3.out.at x y).mono ?_
      rintro e w5 ⟨rfl, hb5⟩
      have D5 := hide (D3.out.upto hb5)
      have q5 := q3.kept hb5
      have q6 := q4.kept hb5
      have HB5 := hide (bt HB3.out hb5)
      obtain ⟨⟨s0, s1⟩, -, -⟩ := id q5
      obtain ⟨⟨s2, s3⟩, -, -⟩ := id q6
      clear r0 r1 r2 r3 hb5 q3 q4
      go_wp2_with (first | (go_at_call 19; refine D5.out.len.mono ?_; rintro e w6 ⟨rfl, rfl⟩) | (go_at_call 20; refine D5.out.size.mono ?_; rintro e w6 ⟨rfl, rfl⟩))
      refine (D5.out.join x y u v).mono ?_
      rintro e w7 ⟨rfl, hb7⟩
      have D7 := hide (D5.out.upto hb7)
      have q7 := q5.kept hb7
      have HB7 := hide (bt HB5.out hb7)
      obtain ⟨⟨z0, z1⟩, -, -⟩ := id q7
      clear s0 s1 s2 s3 hb7 q5 q6
      go_wp2_with fail
      refine (D7.out.join x y x y).mono ?_
      rintro e w8 ⟨rfl, hb8⟩
      have HB8 := hide (bt HB7.out hb8)
      clear hb8 z0 z1
      go_wp2_with fail
      go_roundw
      case rel => exact ⟨0 + 1, by omega, by go_num, HB8.out⟩
      case measure => simp [intOf]
    | 1, _ =>
      have BZ : Below wr.heap.size wr (wr.alloc (.cells zP 62)) := box1 _ _
      have HD := hide (Dd.zero (w := wr.alloc (.cells zP 62)) (p := wr.heap.size) (by simp) (cell_of_row _ _ 0 _ _ _ (heap_alloc_new wr _)))
      obtain ⟨wz, hwz⟩ : ∃ wz, wr.alloc (.cells zP 62) = wz := ⟨_, rfl⟩
      rw [hwz] at BZ HD
      have q0' := q0.kept BZ
      have q1' := q1.kept BZ
      have HBz := hide (bt HB.out BZ)
      have HWz := hide hwz
      clear q0 q1 BZ hwz
      go_wp2_with fail
      try rw [HWz.out]
      refine HD.out.upd.mono ?_
      rintro e w1 ⟨rfl, rfl⟩
      go_wp2_with fail
      refine HD.out.first.mono ?_
      rintro e w2 ⟨rfl, hb2⟩
      have B3 := bt hb2 (box1 w2 (.cells #[.int .i64 0, .int .i64 0] 41))
      have D3 := hide (HD.out.upto B3)
      have q3 := q0'.kept B3
      have q4 := q1'.kept B3
      have HB3 := hide (bt HBz.out B3)
      obtain ⟨⟨r0, r1⟩, -, -⟩ := id q3
      obtain ⟨⟨r2, r3⟩, -, -⟩ := id q4
      clear B3 hb2 HD q0' q1' HWz
      go_wp2_with fail
      refine (D3.out.at x y).mono ?_
      rintro e w5 ⟨rfl, hb5⟩
      have D5 := hide (D3.out.upto hb5)
      have q5 := q3.kept hb5
      have q6 := q4.kept hb5
      have HB5 := hide (bt HB3.out hb5)
      obtain ⟨⟨s0, s1⟩, -, -⟩ := id q5
      obtain ⟨⟨s2, s3⟩, -, -⟩ := id q6
      clear r0 r1 r2 r3 hb5 q3 q4
      go_wp2_with (first | (go_at_call 19; refine D5.out.len.mono ?_; rintro e w6 ⟨rfl, rfl⟩) | (go_at_call 20; refine D5.out.size.mono ?_; rintro e w6 ⟨rfl, rfl⟩))
      refine (D5.out.join x y u v).mono ?_
      rintro e w7 ⟨rfl, hb7⟩
      have D7 := hide (D5.out.upto hb7)
      have q7 := q5.kept hb7
      have HB7 := hide (bt HB5.out hb7)
      obtain ⟨⟨z0, z1⟩, -, -⟩ := id q7
      clear s0 s1 s2 s3 hb7 q5 q6
      go_wp2_with fail
      refine (D7.out.join x y x y).mono ?_
      rintro e w8 ⟨rfl, hb8⟩
      have HB8 := hide (bt HB7.out hb8)
      clear hb8 z0 z1
      go_wp2_with fail
      go_roundw
      case rel => exact ⟨1 + 1, by omega, by go_num, HB8.out⟩
      case measure => simp [intOf]
    | 2, _ =>
      have HBw := hide (bt HB0.out HB.out)
      clear q0 q1
      go_wp2_with fail
      refine (awake_any _ (HG.out.kept HBw.out) (HO.out.kept HBw.out)).mono ?_
      rintro e w7 ⟨rfl, hb7⟩
      have HB7 := hide (bt HBw.out hb7)
      clear hb7
      go_wp2_with fail
      go_ret
      exact ⟨rfl, HB7.out⟩
end Go.Proofs.YtoheibfijpdmfaaDoor
