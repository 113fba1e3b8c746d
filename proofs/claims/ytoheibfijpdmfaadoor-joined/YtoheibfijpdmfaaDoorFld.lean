/-
  A Field in memory; what its small functions tell. What a Field tells of a cell; where a shape stands, as squares; Of, and the document's Clear. The document's Clear; what the neighbours make of a cell; Count, and the epochs.
-/
import Derived.Test.YtoheibfijpdmfaaDoorBoth
import Derived.Test.YtoheibfijpdmfaaDoorStep
import Derived.Test.YtoheibfijpdmfaaDoorClr
import Derived.Deep.OwnRows
set_option linter.unusedSimpArgs false
namespace Go.Proofs.YtoheibfijpdmfaaDoor
open Go.RowKit
set_option linter.unusedVariables false
theorem step_any (x y d : Int) (w : World) (ho : Offs w) :
    Calls Tryd.prog 83 #[.agg #[.int .i64 x, .int .i64 y], .int .i64 d] w fun e w' => e = .returned (.tuple #[.agg #[.int .i64 (sX x y d), .int .i64 (sY x y d)], .bool (sB x y d)]) ∧ Below w.heap.size w w' := by
  cases h : isD d
  · exact step_no1 x y d w h
  · cases hn : nrC x y
    · exact step_no2 x y d w h hn
    · obtain ⟨h0, h1⟩ := (isD_iff d).1 h
      obtain ⟨k, rfl⟩ := Int.eq_ofNat_of_zero_le h0
      cases hm : nrC (x + dX k) (y + dY k)
      · exact step_off x y k w (by omega) ho hn hm
      · exact step_yes x y k w (by omega) ho hn hm
/-- A slice of a block's own, all of it. -/
abbrev sl (b n : Nat) : Value := .slice (some ⟨b, 0, none⟩) n n
/-- In block p lies a Field of the World in block q, its sizes in block b. -/
def Fd (w : World) (p q : Nat) (c W H : Int) (b n : Nat) (e : Int) : Prop :=
  w.heap[p]? = some (.cells #[ptr q, .int .i64 c, .int .i64 0, .int .i64 0, .int .i64 W, .int .i64 H, sl b n, .int .i64 e] 107 (0, 0))
/-- In block b lie bytes. -/
def Szs (w : World) (b : Nat) (l : List Nat) : Prop := w.heap[b]? = some (.cells (l.map (fun n => Value.int .u8 (n : Nat))).toArray 5 (0, 0))
section
variable {w w' : World} {p q b n : Nat} {cl W H ep : Int} {l : List Nat}
theorem Fd.lt (h : Fd w p q cl W H b n ep) : p < w.heap.size := (Array.getElem?_eq_some_iff.1 h).1
theorem Fd.kept {S : Nat → Prop} (h : Fd w p q cl W H b n ep) (ht : Turns S w w') (hs : ¬ S p) : Fd w' p q cl W H b n ep := ht.same hs h
theorem Fd.upto (h : Fd w p q cl W H b n ep) (hb : Below w.heap.size w w') : Fd w' p q cl W H b n ep := (hb.block p h.lt).trans h
theorem Fd.c (h : Fd w p q cl W H b n ep) (j : Nat) : w.cell? ⟨p, j, none⟩ = (#[ptr q, .int .i64 cl, .int .i64 0, .int .i64 0, .int .i64 W, .int .i64 H, sl b n, .int .i64 ep] : Array Value)[j]? := cell_of_row w p j _ _ _ h
theorem Fd.f (h : Fd w p q cl W H b n ep) (j : Nat) : w.frozen? ⟨p, j, none⟩ = false := by
  have h' : w.heap[p]? = _ := h
  simp [World.frozen?, h']
theorem Szs.lt (h : Szs w b l) : b < w.heap.size := (Array.getElem?_eq_some_iff.1 h).1
theorem Szs.kept {S : Nat → Prop} (h : Szs w b l) (ht : Turns S w w') (hs : ¬ S b) : Szs w' b l := ht.same hs h
theorem Szs.upto (h : Szs w b l) (hb : Below w.heap.size w w') : Szs w' b l := (hb.block b h.lt).trans h
theorem Szs.c (h : Szs w b l) {j x : Nat} (hj : l[j]? = some x) : w.cell? ⟨b, j, none⟩ = some (.int .u8 (x : Nat)) := by
  rw [cell_of_row w b j _ _ _ h]; simp [hj]
theorem Szs.f (h : Szs w b l) (j : Nat) : w.frozen? ⟨b, j, none⟩ = false := by
  have h' : w.heap[b]? = _ := h
  simp [World.frozen?, h']
theorem Szs.set (h : Szs w b l) (j x : Nat) : Szs (w.setCell ⟨b, j, none⟩ (.int .u8 (x : Nat))) b (l.set j x) := by
  have h' : w.heap[b]? = _ := h
  unfold Szs
  simp [World.setCell, Array.getElem?_modify, h', List.map_set]
theorem Fd.ne (h : Fd w p q cl W H b n ep) {k : Nat} {m : List Nat} (hs : Szs w k m) : p ≠ k := by
  intro hh
  subst hh
  have h1 : w.heap[p]? = _ := h
  have h2 : w.heap[p]? = _ := hs
  rw [h1] at h2
  simp at h2
theorem neqP (p : Nat) (w : World) : (binOp .neq 58 (ptr p) (.pointer none)).run Tryd.prog w = .ok (.bool true) w := by kernel_rfl
theorem neqP0 (w : World) : (binOp .neq 58 (.pointer none) (.pointer none)).run Tryd.prog w = .ok (.bool false) w := by kernel_rfl
set_option maxHeartbeats 1000000 in
theorem fmade_is (h : Fd w p q cl W H b n ep) : Calls Tryd.prog 65 #[ptr p] w fun e w' => e = .returned (.bool true) ∧ w' = w := by
  have c0 := h.c 0
  simp only [List.getElem?_toArray, List.getElem?_cons_zero] at c0
  clear h
  go_enter Tryd.func65, Tryd.ntmps65
  go_wp2
  go_ret
  exact ⟨rfl, rfl⟩
set_option maxHeartbeats 1000000 in
theorem fmade_nil (w : World) : Calls Tryd.prog 65 #[.pointer none] w fun e w' => e = .returned (.bool false) ∧ w' = w := by
  go_enter Tryd.func65, Tryd.ntmps65
  go_wp2
  go_ret
  exact ⟨rfl, rfl⟩
set_option maxHeartbeats 1000000 in
theorem fmade_zero (h : w.cell? ⟨p, 0, none⟩ = some (.pointer none)) : Calls Tryd.prog 65 #[ptr p] w fun e w' => e = .returned (.bool false) ∧ w' = w := by
  go_enter Tryd.func65, Tryd.ntmps65
  go_wp2
  go_ret
  exact ⟨rfl, rfl⟩
set_option maxRecDepth 100000 in
set_option maxHeartbeats 2000000 in
theorem findex_any (x y z : Int) (k : Nat) (hw1 : IntKind.i64.wrap (y * W) = z) (hw2 : IntKind.i64.wrap (z + x) = (k : Nat)) (h : Fd w p q cl W H b n ep) :
    Calls Tryd.prog 79 #[ptr p, cel x y] w fun e w' => e = .returned (.int .i64 (k : Nat)) ∧ Below w.heap.size w w' := by
  obtain ⟨X, hX⟩ : ∃ X, w.alloc (.cells #[.int .i64 x, .int .i64 y] 41) = X := ⟨_, rfl⟩
  have B0 : Below w.heap.size w X := hX ▸ box1 _ _
  have bX : Two X w.heap.size x y := hX ▸ Two.newAt rfl
  obtain ⟨d0, d1⟩ := bX.lat
  have hX0 := h.upto B0
  have c4 : ∀ m : Lat X, m.w.cell? ⟨p, 4, none⟩ = some (.int .i64 W) := fun m => (hX0.upto m.h).c 4
  have hne := lat_some X
  clear h hX0 bX
  go_enter Tryd.func79, Tryd.ntmps79
  go_wp2_with fail
  clear hX
  refine wp_region_lat (by kernel_rfl) (by kernel_rfl) ?_
  repeat (go_big_quiet_step (fail))
  refine wpQuiet_nil ?_
  rintro _ ⟨m, rfl⟩
  go_wp2_with fail
  go_ret
  exact ⟨rfl, bt B0 m.h⟩
end
end Go.Proofs.YtoheibfijpdmfaaDoor
set_option linter.unusedSimpArgs false
namespace Go.Proofs.YtoheibfijpdmfaaDoor
open Go.RowKit
set_option linter.unusedVariables false
theorem inL {w h : Nat} {l : List Nat} {x y : Int} (hw : w ≤ 128 ∧ h ≤ 128) (hl : l.length = w * h) (hh : has 0 0 (w : Int) (h : Int) x y = true) :
    ∃ (k u : Nat) (z : Int), l[k]? = some u ∧ atL w h l x y = u ∧ IntKind.i64.wrap (y * (w : Int)) = z ∧ IntKind.i64.wrap (z + x) = (k : Nat) ∧ (k : Int) < (l.length : Nat) ∧ (0 : Int) ≤ (k : Int) ∧ (l.length : Int) ≤ 16384 ∧ (k : Nat) = y.toNat * w + x.toNat := by
  have hin := (has_in hw).1 hh
  obtain ⟨X, rfl⟩ := Int.eq_ofNat_of_zero_le hin.1.1
  obtain ⟨Y, rfl⟩ := Int.eq_ofNat_of_zero_le hin.2.1
  have hk := idx_lt (w := w) (h := h) (x := X) (y := Y) (by omega) (by omega)
  have e1 : ((Y : Int) * (w : Int)) = ((Y * w : Nat) : Int) := by simp
  have e2 : (((Y * w : Nat) : Int) + (X : Int)) = ((Y * w + X : Nat) : Int) := by simp
  have hn : w * h ≤ 16384 := by have := Nat.mul_le_mul hw.1 hw.2; omega
  refine ⟨Y * w + X, l[Y * w + X]'(by omega), ((Y * w : Nat) : Int), List.getElem?_eq_getElem (by omega), ?_, ?_, ?_, by omega, by omega, by omega, by simp⟩
  · rw [atL, if_pos hh, e1, e2, Int.toNat_natCast, List.getD_eq_getElem?_getD, List.getElem?_eq_getElem (by omega)]; rfl
  · rw [e1, IntKind.wrap_i64]; omega
  · rw [e2, IntKind.wrap_i64]; omega
section
variable {w : World} {p q b n : Nat} {cl ep : Int} {wd ht : Nat} {l : List Nat}
set_option maxRecDepth 100000 in
set_option maxHeartbeats 4000000 in
theorem fat_any (x y : Int) (hd : Fd w p q cl wd ht b n ep) (hs : Szs w b l) (hw : wd ≤ 128 ∧ ht ≤ 128) (hl : l.length = wd * ht) (hn : n = l.length) (hb : ∀ u ∈ l, u < 256) :
    Calls Tryd.prog 82 #[ptr p, cel x y] w fun e w' => e = .returned (.int .i64 (atL wd ht l x y : Nat)) ∧ Below w.heap.size w w' := by
  obtain ⟨X, hX⟩ : ∃ X, w.alloc (.cells #[.int .i64 x, .int .i64 y] 41) = X := ⟨_, rfl⟩
  have B0 : Below w.heap.size w X := hX ▸ box1 _ _
  have bX : Two X w.heap.size x y := hX ▸ Two.newAt rfl
  obtain ⟨d0, d1⟩ := bX.lat
  have key : ∀ m : Lat X, Fd m.w p q cl wd ht b n ep ∧ Szs m.w b l := fun m => ⟨(hd.upto B0).upto m.h, (hs.upto B0).upto m.h⟩
  have HK := hide key
  subst hn
  have c2 : ∀ m : Lat X, m.w.cell? ⟨p, 2, none⟩ = some (.int .i64 0) := fun m => (key m).1.c 2
  have c3 : ∀ m : Lat X, m.w.cell? ⟨p, 3, none⟩ = some (.int .i64 0) := fun m => (key m).1.c 3
  have c4 : ∀ m : Lat X, m.w.cell? ⟨p, 4, none⟩ = some (.int .i64 wd) := fun m => (key m).1.c 4
  have c5 : ∀ m : Lat X, m.w.cell? ⟨p, 5, none⟩ = some (.int .i64 ht) := fun m => (key m).1.c 5
  have c6 : ∀ m : Lat X, m.w.cell? ⟨p, 6, none⟩ = some (sl b l.length) := fun m => (key m).1.c 6
  have hne := lat_some X
  cases hh : has 0 0 (wd : Int) (ht : Int) x y
  · have HB := hide hh
    rw [show atL wd ht l x y = 0 by simp [atL, hh]]
    clear key hd hs bX hh hl hb hw
    go_enter Tryd.func82, Tryd.ntmps82
    go_wp2_with fail
    clear hX
    refine wp_region_lat (by kernel_rfl) (by kernel_rfl) ?_
    repeat (go_big_quiet_step (first | (go_at_call 65; exact calls_lat_same (fmade_is (HK.out _).1)) | (go_at_call 40; exact calls_lat (hasc_is _ HB.out))))
    refine wpQuiet_nil ?_
    rintro _ ⟨m, rfl⟩
    go_wp2_with fail
    go_ret
    exact ⟨rfl, bt B0 m.h⟩
  · have HB := hide hh
    obtain ⟨k, u, z, hu, hat, hw1, hw2, hk1, hk0, hlI, -⟩ := inL hw hl hh
    have hub : u < 256 := hb u (List.mem_of_getElem? hu)
    have hub' : (0 : Int) ≤ (u : Nat) ∧ ((u : Nat) : Int) < 256 := by omega
    have hcell : ∀ m : Lat X, m.w.cell? ⟨b, k, none⟩ = some (.int .u8 (u : Nat)) := fun m => (HK.out m).2.c hu
    have HI : Hid (∀ m : Lat X, Calls Tryd.prog 79 #[ptr p, cel x y] m.w fun e w' => e = .returned (.int .i64 (k : Nat)) ∧ Below m.w.heap.size m.w w') := hide fun m => findex_any x y z k hw1 hw2 (HK.out m).1
    rw [hat]
    clear key hd hs bX hh hl hb hw hu hat hw1 hw2
    go_enter Tryd.func82, Tryd.ntmps82
    go_wp2_with fail
    clear hX
    refine wp_region_lat (by kernel_rfl) (by kernel_rfl) ?_
    repeat (go_big_quiet_step (first | (go_at_call 65; exact calls_lat_same (fmade_is (HK.out _).1)) | (go_at_call 40; exact calls_lat (hasc_is _ HB.out))))
    refine wpQuiet_nil ?_
    rintro _ ⟨m, rfl⟩
    go_wp2_with fail
    have e0 : ∀ i : Lat m.w, i.w.cell? ⟨w.heap.size, 0, none⟩ = some (.int .i64 x) := fun i => d0 ⟨i.w, bt m.h i.h⟩
    have e1 : ∀ i : Lat m.w, i.w.cell? ⟨w.heap.size, 1, none⟩ = some (.int .i64 y) := fun i => d1 ⟨i.w, bt m.h i.h⟩
    have e6 : ∀ i : Lat m.w, i.w.cell? ⟨p, 6, none⟩ = some (sl b l.length) := fun i => c6 ⟨i.w, bt m.h i.h⟩
    have e7 : ∀ i : Lat m.w, i.w.cell? ⟨b, k, none⟩ = some (.int .u8 (u : Nat)) := fun i => hcell ⟨i.w, bt m.h i.h⟩
    have HI2 : Hid (∀ i : Lat m.w, Calls Tryd.prog 79 #[ptr p, cel x y] i.w fun e w' => e = .returned (.int .i64 (k : Nat)) ∧ Below i.w.heap.size i.w w') := hide fun i => HI.out ⟨i.w, bt m.h i.h⟩
    have hne2 := lat_some m.w
    clear d0 d1 c2 c3 c4 c5 c6 hcell hne HI
    refine wp_region_lat (by kernel_rfl) (by kernel_rfl) ?_
    repeat (go_big_quiet_step (first | (go_at_call 79; exact calls_lat (HI2.out _))))
    refine wpQuiet_nil ?_
    rintro _ ⟨i, rfl⟩
    go_wp2_with fail
    go_ret
    exact ⟨rfl, bt B0 (bt m.h i.h)⟩
theorem fat_is (x y : Int) {v : Nat} (hv : atL wd ht l x y = v) (hd : Fd w p q cl wd ht b n ep) (hs : Szs w b l) (hw : wd ≤ 128 ∧ ht ≤ 128) (hl : l.length = wd * ht) (hn : n = l.length) (hb : ∀ u ∈ l, u < 256) :
    Calls Tryd.prog 82 #[ptr p, cel x y] w fun e w' => e = .returned (.int .i64 (v : Nat)) ∧ Below w.heap.size w w' := by subst hv; exact fat_any x y hd hs hw hl hn hb
set_option maxHeartbeats 1000000 in
theorem fat_nil (x y : Int) (w : World) : Calls Tryd.prog 82 #[.pointer none, cel x y] w fun e w' => e = .returned (.int .i64 0) ∧ Below w.heap.size w w' := by
  obtain ⟨X, hX⟩ : ∃ X, w.alloc (.cells #[.int .i64 x, .int .i64 y] 41) = X := ⟨_, rfl⟩
  have B0 : Below w.heap.size w X := hX ▸ box1 _ _
  have hne := lat_some X
  go_enter Tryd.func82, Tryd.ntmps82
  go_wp2_with fail
  clear hX
  refine wp_region_lat (by kernel_rfl) (by kernel_rfl) ?_
  repeat (go_big_quiet_step (first | (go_at_call 65; exact calls_lat_same (fmade_nil _))))
  refine wpQuiet_nil ?_
  rintro _ ⟨m, rfl⟩
  go_wp2_with fail
  go_ret
  exact ⟨rfl, bt B0 m.h⟩
set_option maxHeartbeats 1000000 in
theorem fat_zero (x y : Int) (w : World) (hp : p < w.heap.size) (h : w.cell? ⟨p, 0, none⟩ = some (.pointer none)) : Calls Tryd.prog 82 #[ptr p, cel x y] w fun e w' => e = .returned (.int .i64 0) ∧ Below w.heap.size w w' := by
  obtain ⟨X, hX⟩ : ∃ X, w.alloc (.cells #[.int .i64 x, .int .i64 y] 41) = X := ⟨_, rfl⟩
  have B0 : Below w.heap.size w X := hX ▸ box1 _ _
  have hne := lat_some X
  have HZ : Hid (∀ m : Lat X, m.w.cell? ⟨p, 0, none⟩ = some (.pointer none)) := hide fun m => ((bt B0 m.h).cell (p := ⟨p, 0, none⟩) hp).trans h
  clear h hp
  go_enter Tryd.func82, Tryd.ntmps82
  go_wp2_with fail
  clear hX
  refine wp_region_lat (by kernel_rfl) (by kernel_rfl) ?_
  repeat (go_big_quiet_step (first | (go_at_call 65; exact calls_lat_same (fmade_zero (HZ.out _)))))
  refine wpQuiet_nil ?_
  rintro _ ⟨m, rfl⟩
  go_wp2_with fail
  go_ret
  exact ⟨rfl, bt B0 m.h⟩
end
set_option maxHeartbeats 1000000 in
theorem cstands_of (vw : Value) (cl s x y : Int) (r : Bool) (w : World) (h : ∀ wx, Below w.heap.size w wx → Calls Tryd.prog 103 #[vw, shv cl s, cel x y] wx fun e w' => e = .returned (.bool r) ∧ Below wx.heap.size wx w') :
    Calls Tryd.prog 97 #[vw, .int .i64 cl, .int .i64 s, cel x y] w fun e w' => e = .returned (.bool r) ∧ Below w.heap.size w w' := by
  have HS := hide h
  clear h
  go_enter Tryd.func97, Tryd.ntmps97
  go_wp2_with (go_at_call 103; refine (HS.out _ (box1 _ _)).mono ?_; rintro e w1 ⟨rfl, hb1⟩)
  go_ret
  exact ⟨rfl, bt (box1 _ _) hb1⟩
set_option maxHeartbeats 1000000 in
theorem fclass_any (cl : Int) (w : World) : Calls Tryd.prog 49 #[.int .i64 cl] w fun e w' => e = .returned (.bool (isC cl)) ∧ Below w.heap.size w w' := by
  have HS := hide (shmay_any cl 1 w)
  have he : shB cl 1 = isC cl := by simp [shB]
  rw [he] at HS
  clear he
  go_enter Tryd.func49, Tryd.ntmps49
  go_wp2_with (go_at_call 23; refine HS.out.mono ?_; rintro e w1 ⟨rfl, hb1⟩)
  go_ret
  exact ⟨rfl, hb1⟩
theorem car_has {W H : Int} {tl : List Nat} {f : Int → Int → Option Int} {c x y : Int} (h : carB W H tl f c x y = true) : has 0 0 W H x y = true := by
  simp only [carB, Bool.and_eq_true] at h; exact h.1
theorem car_class {W H : Int} {tl : List Nat} {f : Int → Int → Option Int} {c x y : Int} (h : carB W H tl f c x y = true) : isC c = true := by
  simp only [carB, Bool.and_eq_true] at h
  cases hc : isC c
  · rw [onB_no hc] at h; simp at h
  · rfl
/-- A shape stands just where its square is carried. -/
theorem st_sq {W H : Int} (hW : gs W 128 = true) (hH : gs H 128 = true) (tl : List Nat) (f : Int → Int → Option Int) (c x y : Int) {s : Nat} (h1 : 1 ≤ s) (h4 : s ≤ 4) :
    stB W H tl f c (s : Int) x y = sqB (carB W H tl f c) x y s := by
  simp only [gs, decide_eq_true_eq] at hW hH
  rw [Bool.eq_iff_iff, sqB_iff]
  constructor
  · intro h i m hi hm
    unfold stB at h
    cases hf : fB c s x y
    · rw [fi_no hf, fi_no hf, fi_no hf] at h
      simp only [stU, Bool.and_eq_true] at h
      have h2 := h.1
      simp only [wi, Bool.and_eq_true] at h2
      have := (may_iff _ _ _ _).1 h2.1
      omega
    · rw [fi_yes hf, fi_yes hf, fi_yes hf] at h
      simp only [stU, Bool.and_eq_true, List.all_eq_true] at h
      have hh : has x y s s (x + (i : Nat)) (y + (m : Nat)) = true := by
        have h2 := h.1
        simp only [wi, Bool.and_eq_true] at h2
        rw [has_iff]
        exact ⟨h2.1, by omega, by omega, by omega, by omega⟩
      exact h.2 ⟨(x + (i : Nat), y + (m : Nat)), has_w64 hh⟩ ((mem_allC _ _ _ _ _).2 hh)
  · intro h
    have a0 := h 0 0 (by omega) (by omega)
    have a1 := h (s - 1) (s - 1) (by omega) (by omega)
    have b0 := (has_iff _ _ _ _ _ _).1 (car_has a0)
    have b1 := (has_iff _ _ _ _ _ _).1 (car_has a1)
    have hc := car_class a0
    have hmay : may x y s s = true := by rw [may_iff]; omega
    have hf : fB c s x y = true := by
      simp only [fB, Bool.and_eq_true]
      refine ⟨?_, hmay⟩
      rw [shB_iff]
      have := (isC_iff _).1 hc
      omega
    unfold stB
    rw [fi_yes hf, fi_yes hf, fi_yes hf]
    simp only [stU, Bool.and_eq_true, List.all_eq_true]
    have hx0 : has 0 0 W H x y = true := by
      have := car_has a0
      simpa using this
    have hx1 : has 0 0 W H (x + s - 1) (y + s - 1) = true := by
      have := car_has a1
      rwa [show x + ((s - 1 : Nat) : Int) = x + s - 1 by omega, show y + ((s - 1 : Nat) : Int) = y + s - 1 by omega] at this
    refine ⟨by simp only [wi, Bool.and_eq_true]; exact ⟨hmay, hx0, hx1⟩, fun q hq => ?_⟩
    rw [mem_allC, has_iff] at hq
    obtain ⟨-, q1, q2, q3, q4⟩ := hq
    have := h (q.1.1 - x).toNat (q.1.2 - y).toNat (by omega) (by omega)
    rwa [show x + ((q.1.1 - x).toNat : Int) = q.1.1 by omega, show y + ((q.1.2 - y).toNat : Int) = q.1.2 by omega] at this
theorem mt_gs {W H : Int} {tl : List Nat} (h : mt W H tl = true) : gs W 128 = true ∧ gs H 128 = true := by
  simp only [mt, Bool.and_eq_true] at h
  exact ⟨h.1, h.2.1⟩
/-- What stands, of a size from 1 to 4. -/
theorem cstands_any {w : World} {q : Nat} {W H : Int} {tl : List Nat} {f : Int → Int → Option Int} (cl x y : Int) {s : Nat} (h1 : 1 ≤ s) (h4 : s ≤ 4) {r : Bool} (hr : sqB (carB W H tl f cl) x y s = r) (hw : Wl w q W H tl f) (hg : Grnd w) :
    Calls Tryd.prog 97 #[ptr q, .int .i64 cl, .int .i64 (s : Nat), cel x y] w fun e w' => e = .returned (.bool r) ∧ Below w.heap.size w w' := by
  refine cstands_of (ptr q) cl s x y r w (fun wx hb => stands_is (hw.kept hb) (hg.kept hb) ?_)
  rw [st_sq (mt_gs hw.1.1).1 (mt_gs hw.1.1).2 tl f cl x y h1 h4, hr]
end Go.Proofs.YtoheibfijpdmfaaDoor
set_option linter.unusedSimpArgs false
namespace Go.Proofs.YtoheibfijpdmfaaDoor
open Go.RowKit
set_option linter.unusedVariables false
def gk (a1 a2 a3 : Nat) : Nat → Nat
  | 0 => 4
  | 1 => min 4 (1 + a1)
  | 2 => min (min 4 (1 + a1)) (1 + a2)
  | _ => min (min (min 4 (1 + a1)) (1 + a2)) (1 + a3)
theorem gk_le (a1 a2 a3 k : Nat) : gk a1 a2 a3 k ≤ 4 := by unfold gk; split <;> omega
theorem near_of {x y : Int} (hx : 0 ≤ x ∧ x < 128) (hy : 0 ≤ y ∧ y < 128) : (sB x y 0 = true ∧ sX x y 0 = x + 1 ∧ sY x y 0 = y) ∧ (sB x y 1 = true ∧ sX x y 1 = x ∧ sY x y 1 = y + 1) ∧ (sB x y 4 = true ∧ sX x y 4 = x + 1 ∧ sY x y 4 = y + 1) := by
  have h0 : sB x y 0 = true := by simp only [sB, isD, dX, dY, nrC_iff, Bool.and_eq_true, decide_eq_true_eq, Int.toNat_zero]; omega
  have h1 : sB x y 1 = true := by simp only [sB, isD, dX, dY, nrC_iff, Bool.and_eq_true, decide_eq_true_eq, show (1 : Int).toNat = 1 from rfl]; omega
  have h4 : sB x y 4 = true := by simp only [sB, isD, dX, dY, nrC_iff, Bool.and_eq_true, decide_eq_true_eq, show (4 : Int).toNat = 4 from rfl]; omega
  exact ⟨⟨h0, by rw [sX_yes h0]; rfl, by rw [sY_yes h0]; simp [dY]⟩, ⟨h1, by rw [sX_yes h1]; simp [dX], by rw [sY_yes h1]; rfl⟩, ⟨h4, by rw [sX_yes h4]; rfl, by rw [sY_yes h4]; rfl⟩⟩
theorem step_is {x y d u v : Int} {w : World} (ho : Offs w) (h : sB x y d = true ∧ sX x y d = u ∧ sY x y d = v) :
    Calls Tryd.prog 83 #[cel x y, .int .i64 d] w fun e w' => e = .returned (.tuple #[cel u v, .bool true]) ∧ Below w.heap.size w w' := by
  have := step_any x y d w ho
  rwa [h.1, h.2.1, h.2.2] at this
theorem ix0 (w : World) : (Instr.index 142 (.agg #[.int .i64 0, .int .i64 1, .int .i64 4]) (.int .i64 0)).run Tryd.prog w = .ok (.int .i64 0) w := by kernel_rfl
theorem ix1 (w : World) : (Instr.index 142 (.agg #[.int .i64 0, .int .i64 1, .int .i64 4]) (.int .i64 1)).run Tryd.prog w = .ok (.int .i64 1) w := by kernel_rfl
theorem ix2 (w : World) : (Instr.index 142 (.agg #[.int .i64 0, .int .i64 1, .int .i64 4]) (.int .i64 2)).run Tryd.prog w = .ok (.int .i64 4) w := by kernel_rfl
set_option maxRecDepth 100000 in
set_option maxHeartbeats 8000000 in
theorem grown_any {w : World} {p q b n : Nat} {cl ep : Int} {wd ht : Nat} {l : List Nat} {tl : List Nat} {f : Int → Int → Option Int} (x y : Int) (hx : 0 ≤ x ∧ x < 128) (hy : 0 ≤ y ∧ y < 128)
    (hd : Fd w p q cl wd ht b n ep) (hs : Szs w b l) (hwd : wd ≤ 128 ∧ ht ≤ 128) (hl : l.length = wd * ht) (hn : n = l.length) (hb : ∀ u ∈ l, u < 256) (hw : Wl w q wd ht tl f) (hg : Grnd w) (ho : Offs w) :
    Calls Tryd.prog 80 #[ptr p, cel x y] w fun e w' => e = .returned (.int .u8 (grL (carB wd ht tl f cl) wd ht l x y : Nat)) ∧ Below w.heap.size w w' := by
  obtain ⟨X, hX⟩ : ∃ X, w.alloc (.cells #[.int .i64 x, .int .i64 y] 41) = X := ⟨_, rfl⟩
  have B0 : Below w.heap.size w X := hX ▸ box1 _ _
  have bX : Two X w.heap.size x y := hX ▸ Two.newAt rfl
  obtain ⟨d0, d1⟩ := bX.lat
  have HK : Hid (∀ wx, Below w.heap.size w wx → Wl wx q wd ht tl f ∧ Grnd wx) := hide fun wx hx => ⟨hw.kept hx, hg.kept hx⟩
  have hst := near_of hx hy
  have HT : Hid (∀ wx, Below w.heap.size w wx → (Calls Tryd.prog 83 #[cel x y, .int .i64 0] wx fun e w' => e = .returned (.tuple #[cel (x + 1) y, .bool true]) ∧ Below wx.heap.size wx w') ∧
      (Calls Tryd.prog 83 #[cel x y, .int .i64 1] wx fun e w' => e = .returned (.tuple #[cel x (y + 1), .bool true]) ∧ Below wx.heap.size wx w') ∧
      (Calls Tryd.prog 83 #[cel x y, .int .i64 4] wx fun e w' => e = .returned (.tuple #[cel (x + 1) (y + 1), .bool true]) ∧ Below wx.heap.size wx w')) := hide fun wx hx =>
    ⟨step_is (ho.kept hx) hst.1, step_is (ho.kept hx) hst.2.1, step_is (ho.kept hx) hst.2.2⟩
  obtain ⟨a1, h1⟩ : ∃ a, atL wd ht l (x + 1) y = a := ⟨_, rfl⟩
  obtain ⟨a2, h2⟩ : ∃ a, atL wd ht l x (y + 1) = a := ⟨_, rfl⟩
  obtain ⟨a3, h3⟩ : ∃ a, atL wd ht l (x + 1) (y + 1) = a := ⟨_, rfl⟩
  have hlt : ∀ u v, atL wd ht l u v < 256 := fun u v => by
    unfold atL
    split
    · rw [List.getD_eq_getElem?_getD]
      cases hh : l[(v * (wd : Int) + u).toNat]? with
      | none => simp
      | some z => exact hb z (List.mem_of_getElem? hh)
    · omega
  have r1 := hlt (x + 1) y
  have r2 := hlt x (y + 1)
  have r3 := hlt (x + 1) (y + 1)
  have HA : Hid (∀ wx, Below w.heap.size w wx → (Calls Tryd.prog 82 #[ptr p, cel (x + 1) y] wx fun e w' => e = .returned (.int .i64 (a1 : Nat)) ∧ Below wx.heap.size wx w') ∧
      (Calls Tryd.prog 82 #[ptr p, cel x (y + 1)] wx fun e w' => e = .returned (.int .i64 (a2 : Nat)) ∧ Below wx.heap.size wx w') ∧
      (Calls Tryd.prog 82 #[ptr p, cel (x + 1) (y + 1)] wx fun e w' => e = .returned (.int .i64 (a3 : Nat)) ∧ Below wx.heap.size wx w')) := hide fun wx hx =>
    ⟨fat_is _ _ h1 (hd.upto hx) (hs.upto hx) hwd hl hn hb, fat_is _ _ h2 (hd.upto hx) (hs.upto hx) hwd hl hn hb, fat_is _ _ h3 (hd.upto hx) (hs.upto hx) hwd hl hn hb⟩
  have c0 : ∀ m : Lat X, m.w.cell? ⟨p, 0, none⟩ = some (ptr q) := fun m => ((hd.upto B0).upto m.h).c 0
  have c1 : ∀ m : Lat X, m.w.cell? ⟨p, 1, none⟩ = some (.int .i64 cl) := fun m => ((hd.upto B0).upto m.h).c 1
  have hne := lat_some X
  unfold grL
  rw [h1, h2, h3]
  rw [h1] at r1
  rw [h2] at r2
  rw [h3] at r3
  cases hcar : carB wd ht tl f cl x y
  · have HC : Hid (∀ m : Lat X, Calls Tryd.prog 97 #[ptr q, .int .i64 cl, .int .i64 1, cel x y] m.w fun e w' => e = .returned (.bool false) ∧ Below m.w.heap.size m.w w') := hide fun m =>
      cstands_any (s := 1) cl x y (by omega) (by omega) (by rw [sq_one, hcar]) (HK.out _ (bt B0 m.h)).1 (HK.out _ (bt B0 m.h)).2
    rw [show grw false a1 a2 a3 = 0 from rfl]
    clear hd hs hw hg ho bX hlt hb hcar h1 h2 h3 hst
    go_enter Tryd.func80, Tryd.ntmps80
    go_wp2_with fail
    clear hX
    refine wp_region_lat (by kernel_rfl) (by kernel_rfl) ?_
    repeat (go_big_quiet_step (first | (go_at_call 97; exact calls_lat (HC.out _))))
    refine wpQuiet_nil ?_
    rintro _ ⟨m, rfl⟩
    go_wp2_with fail
    go_ret
    exact ⟨rfl, bt B0 m.h⟩
  · have HC : Hid (∀ m : Lat X, Calls Tryd.prog 97 #[ptr q, .int .i64 cl, .int .i64 1, cel x y] m.w fun e w' => e = .returned (.bool true) ∧ Below m.w.heap.size m.w w') := hide fun m =>
      cstands_any (s := 1) cl x y (by omega) (by omega) (by rw [sq_one, hcar]) (HK.out _ (bt B0 m.h)).1 (HK.out _ (bt B0 m.h)).2
    rw [show grw true a1 a2 a3 = gk a1 a2 a3 3 from rfl]
    clear hd hs hw hg ho bX hlt hb hcar h1 h2 h3 hst
    go_enter Tryd.func80, Tryd.ntmps80
    go_wp2_with fail
    clear hX
    refine wp_region_lat (by kernel_rfl) (by kernel_rfl) ?_
    repeat (go_big_quiet_step (first | (go_at_call 97; exact calls_lat (HC.out _))))
    refine wpQuiet_nil ?_
    rintro _ ⟨m0, rfl⟩
    clear c0 c1 HC HK
    go_wp2_with fail
    go_loopw [5, 22] (fun d e wr => ∃ k : Nat, k ≤ 3 ∧ (d = .int .i64 ((gk a1 a2 a3 k : Nat) : Int) ∧ e = .int .i64 (k : Nat)) ∧ ∃ m : Lat X, wr = m.w) (fun _ e _ => 3 - (intOf e).toNat)
    case atStart => exact ⟨0, by omega, ⟨rfl, rfl⟩, m0, rfl⟩
    case round =>
      obtain ⟨k, hk, ⟨rfl, rfl⟩, m, rfl⟩ := hrel
      have n0 := d0 m
      have n1 := d1 m
      have hTm := hide (HT.out _ (bt B0 m.h))
      have hmn := min_if
      have g4 := gk_le a1 a2 a3 k
      obtain ⟨g, hg⟩ : ∃ g : Nat, gk a1 a2 a3 k = g := ⟨_, rfl⟩
      rw [hg] at g4 ⊢
      have Hg := hide hg
      have hgr : (0 : Int) ≤ (g : Nat) ∧ ((g : Nat) : Int) ≤ 4 := by omega
      have q1 : (0 : Int) ≤ (a1 : Nat) ∧ ((a1 : Nat) : Int) < 256 := by omega
      have q2 : (0 : Int) ≤ (a2 : Nat) ∧ ((a2 : Nat) : Int) < 256 := by omega
      have q3 : (0 : Int) ≤ (a3 : Nat) ∧ ((a3 : Nat) : Int) < 256 := by omega
      clear hg
      match k, hk, Hg with
      | 0, _, Hg =>
        have hix := ix0
        go_wp2_with fail
        refine hTm.out.1.mono ?_
        rintro e w1 ⟨rfl, hb1⟩
        clear n0 n1
        have B2 := bt (bt m.h hb1) (box1 w1 (.cells #[.int .i64 (x + 1), .int .i64 y] 41))
        go_wp2_with fail
        refine ((HA.out _ (bt B0 B2)).1).mono ?_
        rintro e w2 ⟨rfl, hb2⟩
        go_wp2_with fail
        go_roundw
        case rel => exact ⟨0 + 1, by omega, ⟨by have := Hg.out; simp only [gk] at this ⊢; rw [show min ((g : Nat) : Int) (1 + (a1 : Nat)) = ((min g (1 + a1) : Nat) : Int) by omega, ← this], by go_num⟩, ⟨_, bt B2 hb2⟩, rfl⟩
        case measure => simp [intOf]
      | 1, _, Hg =>
        have hix := ix1
        go_wp2_with fail
        refine hTm.out.2.1.mono ?_
        rintro e w1 ⟨rfl, hb1⟩
        clear n0 n1
        have B2 := bt (bt m.h hb1) (box1 w1 (.cells #[.int .i64 x, .int .i64 (y + 1)] 41))
        go_wp2_with fail
        refine ((HA.out _ (bt B0 B2)).2.1).mono ?_
        rintro e w2 ⟨rfl, hb2⟩
        go_wp2_with fail
        go_roundw
        case rel => exact ⟨1 + 1, by omega, ⟨by have := Hg.out; simp only [gk] at this ⊢; rw [show min ((g : Nat) : Int) (1 + (a2 : Nat)) = ((min g (1 + a2) : Nat) : Int) by omega, ← this], by go_num⟩, ⟨_, bt B2 hb2⟩, rfl⟩
        case measure => simp [intOf]
      | 2, _, Hg =>
        have hix := ix2
        go_wp2_with fail
        refine hTm.out.2.2.mono ?_
        rintro e w1 ⟨rfl, hb1⟩
        clear n0 n1
        have B2 := bt (bt m.h hb1) (box1 w1 (.cells #[.int .i64 (x + 1), .int .i64 (y + 1)] 41))
        go_wp2_with fail
        refine ((HA.out _ (bt B0 B2)).2.2).mono ?_
        rintro e w2 ⟨rfl, hb2⟩
        go_wp2_with fail
        go_roundw
        case rel => exact ⟨2 + 1, by omega, ⟨by have := Hg.out; simp only [gk] at this ⊢; rw [show min ((g : Nat) : Int) (1 + (a3 : Nat)) = ((min g (1 + a3) : Nat) : Int) by omega, ← this], by go_num⟩, ⟨_, bt B2 hb2⟩, rfl⟩
        case measure => simp [intOf]
      | 3, _, Hg =>
        go_wp2_with fail
        go_ret
        exact ⟨ret_int (by rw [Hg.out]), bt B0 m.h⟩
end Go.Proofs.YtoheibfijpdmfaaDoor
