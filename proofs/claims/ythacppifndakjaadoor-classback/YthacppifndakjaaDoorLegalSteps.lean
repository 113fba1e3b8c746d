/-
  An array of eight bools; the two directions between which one over a corner lies; what is legal by each direction. By which directions a step is legal.
-/
import Derived.Test.YthacppifndakjaaDoorSteps
import Derived.Test.YthacppifndakjaaDoorAroundKeep
import Derived.Stop.RegionWithIn
namespace Go.Proofs.YthacppifndakjaaDoor
open Go.RowKit
set_option linter.unusedVariables false
/-- In block b lie eight bools. -/
def Arr (w : World) (b : Nat) (f : Nat → Bool) : Prop := w.heap[b]? = some (.cells #[.bool (f 0), .bool (f 1), .bool (f 2), .bool (f 3), .bool (f 4), .bool (f 5), .bool (f 6), .bool (f 7)] 44 (0, 0))
theorem Arr.lt {w : World} {b : Nat} {f : Nat → Bool} (h : Arr w b f) : b < w.heap.size := (Array.getElem?_eq_some_iff.1 h).1
theorem Arr.c {w : World} {b : Nat} {f : Nat → Bool} (h : Arr w b f) {k : Nat} (hk : k < 8) : w.cell? ⟨b, k, none⟩ = some (.bool (f k)) := by
  rw [cell_of_row w b k _ _ _ h]
  match k, hk with
  | 0, _ | 1, _ | 2, _ | 3, _ | 4, _ | 5, _ | 6, _ | 7, _ => rfl
theorem Arr.f {w : World} {b : Nat} {f : Nat → Bool} (h : Arr w b f) (k : Nat) : w.frozen? ⟨b, k, none⟩ = false := by
  have h' : w.heap[b]? = _ := h
  simp [World.frozen?, h']
theorem Arr.set {w : World} {b : Nat} {f : Nat → Bool} (h : Arr w b f) {k : Nat} (hk : k < 8) (v : Bool) : Arr (w.setCell ⟨b, k, none⟩ (.bool v)) b (fun j => if j = k then v else f j) := by
  have h' : w.heap[b]? = _ := h
  unfold Arr
  match k, hk with
  | 0, _ | 1, _ | 2, _ | 3, _ | 4, _ | 5, _ | 6, _ | 7, _ => simp [World.setCell, Array.getElem?_modify, h']
theorem Arr.upto {n₀ : Nat} {w w' : World} {b : Nat} {f : Nat → Bool} (h : Arr w b f) (hb : Below n₀ w w') (hn : b < n₀) : Arr w' b f := (hb.block b hn).trans h
theorem Arr.kept {w w' : World} {b : Nat} {f : Nat → Bool} (h : Arr w b f) (hb : Below w.heap.size w w') : Arr w' b f := h.upto hb h.lt
theorem Arr.new (w : World) : Arr (w.alloc (.cells #[.bool false, .bool false, .bool false, .bool false, .bool false, .bool false, .bool false, .bool false] 44)) w.heap.size (fun _ => false) := heap_alloc_new w _
theorem Arr.own {W W' : World} {row : Option Nat} {b : Nat} {f : Nat → Bool} (h : Arr W b f) (hg : W.grownBy W' row) (hr : ∀ r, row = some r → ∃ o : Obj, W.heap[r]? = some o ∧ o.isCells = false) : Arr W' b f :=
  (hg.block b h.lt (fun e => by
    obtain ⟨o, ho, hc⟩ := hr b e.symm
    have h' : W.heap[b]? = _ := h
    rw [h'] at ho
    cases ho
    cases hc)).trans h
abbrev arrV (f : Nat → Bool) : Value := .agg #[.bool (f 0), .bool (f 1), .bool (f 2), .bool (f 3), .bool (f 4), .bool (f 5), .bool (f 6), .bool (f 7)]
/-- The two directions of which one over a corner is made. -/
def bwA (k : Nat) : Nat := k - 4
def bwB (k : Nat) : Nat := (k - 3) % 4
set_option maxHeartbeats 1000000 in
theorem between_any (k : Nat) (h4 : 4 ≤ k) (h8 : k < 8) (w : World) : Calls Tryd.prog 66 #[.int .i64 k] w fun e w' => e = .returned (.tuple #[.int .i64 (bwA k : Nat), .int .i64 (bwB k : Nat)]) ∧ w' = w := by
  match k, h4, h8 with
  | 4, _, _ | 5, _, _ | 6, _, _ | 7, _, _ =>
    go_enter Tryd.func66, Tryd.ntmps66
    go_wp2_with fail
    go_ret2
    exact ⟨rfl, rfl⟩
/-- One round of the loop: what is told of direction k. -/
def upd (S : Nat → Bool) (f : Nat → Bool) (k : Nat) : Nat → Bool := fun j => if j = k then (if 4 ≤ k then S k && (f (bwA k) && f (bwB k)) else S k) else f j
def arrF (S : Nat → Bool) (pre : List (Fin 8)) : Nat → Bool := pre.foldl (fun f k => upd S f k.val) (fun _ => false)
theorem arrF_snoc (S : Nat → Bool) (pre : List (Fin 8)) (k : Fin 8) : arrF S (pre ++ [k]) = upd S (arrF S pre) k.val := by simp [arrF]
theorem fin8 : List.finRange 8 = [0, 1, 2, 3, 4, 5, 6, 7] := by decide
def updI (S i : Nat → Bool) (f : Nat → Bool) (k : Nat) : Nat → Bool := fun j => if j = k then (if i k = true then (if 4 ≤ k then S k && (f (bwA k) && f (bwB k)) else S k) else f k) else f j
theorem updI_eq (S i f : Nat → Bool) (k : Nat) : (if i k = true then upd S f k else f) = updI S i f k := by
  funext j
  unfold updI upd
  by_cases hi : i k = true
  · simp [hi]
  · by_cases hj : j = k
    · subst hj; simp [hi]
    · simp [hi, hj]
theorem arrF_all (S i : Nat → Bool) (k : Nat) (hk : k < 8) : arrF S ((List.finRange 8).filter (fun j => i j.val)) k = (i k && (if 4 ≤ k then S k && ((i (bwA k) && S (bwA k)) && (i (bwB k) && S (bwB k))) else S k)) := by
  rw [arrF, List.foldl_filter, fin8]
  simp only [List.foldl_cons, List.foldl_nil, updI_eq]
  rw [show ((3 : Fin 8).val) = 3 from rfl, show ((4 : Fin 8).val) = 4 from rfl, show ((5 : Fin 8).val) = 5 from rfl, show ((6 : Fin 8).val) = 6 from rfl, show ((7 : Fin 8).val) = 7 from rfl]
  match k, hk with
  | 0, _ | 1, _ | 2, _ | 3, _ | 4, _ | 5, _ | 6, _ | 7, _ =>
    simp [updI, bwA, bwB]
end Go.Proofs.YthacppifndakjaaDoor
namespace Go.Proofs.YthacppifndakjaaDoor
open Go.RowKit Go.Shelf
set_option linter.unusedVariables false
attribute [local go_sem] Oper.semAt_some
set_option maxHeartbeats 1000000 in
theorem around_any (x y p q a b : Int) (w : World) :
    Calls Tryd.prog 42 #[cel x y, rct p q a b] w fun e w' => e = .returned (.func (.func 67) #[] #[ptr w.heap.size, ptr (w.heap.size + 1)]) ∧ w' = (w.alloc (.cells #[.int .i64 x, .int .i64 y] 25)).alloc (.cells #[.int .i64 p, .int .i64 q, .int .i64 a, .int .i64 b] 29) := by
  go_enter Tryd.func42, Tryd.ntmps42
  go_wp2_with fail
  go_ret
  exact ⟨rfl, rfl⟩
/-- What the loop's frame lays. -/
abbrev WL5 (w : World) (p : Nat) (c s x y : Int) : World := ((((w.alloc (.cells #[ptr p] 37)).alloc (.cells #[.int .i64 c, .int .i64 s] 23)).alloc (.cells #[.int .i64 x, .int .i64 y] 25)).alloc (.cells #[.bool false, .bool false, .bool false, .bool false, .bool false, .bool false, .bool false, .bool false] 44)).alloc (.cells #[.bool false, .bool false, .bool false, .bool false, .bool false, .bool false, .bool false, .bool false] 44)
theorem wl5_below (w : World) (p : Nat) (c s x y : Int) : Below w.heap.size w (WL5 w p c s x y) := bt (bt (box2 _ _ _) (box2 _ _ _)) (box1 _ _)
theorem wl5_size (w : World) (p : Nat) (c s x y : Int) : (WL5 w p c s x y).heap.size = w.heap.size + 5 := by simp
theorem wl5_ptr (w : World) (p : Nat) (c s x y : Int) : Boxed (WL5 w p c s x y) w.heap.size 37 (ptr p) := ((((Boxed.new w 37 (ptr p)).alloc _).alloc _).alloc _).alloc _
theorem wl5_shape (w : World) (p : Nat) (c s x y : Int) : Two (WL5 w p c s x y) (w.heap.size + 1) c s := (((Two.newAt (by simp)).alloc).alloc).alloc
theorem wl5_cell (w : World) (p : Nat) (c s x y : Int) : Two (WL5 w p c s x y) (w.heap.size + 1 + 1) x y := ((Two.newAt (by simp)).alloc).alloc
theorem wl5_res (w : World) (p : Nat) (c s x y : Int) : Arr (WL5 w p c s x y) (w.heap.size + 1 + 1 + 1) (fun _ => false) := by
  have := (Arr.new (((w.alloc (.cells #[ptr p] 37)).alloc (.cells #[.int .i64 c, .int .i64 s] 23)).alloc (.cells #[.int .i64 x, .int .i64 y] 25))).kept (box1 _ (.cells #[.bool false, .bool false, .bool false, .bool false, .bool false, .bool false, .bool false, .bool false] 44))
  simpa using this
theorem wl5_arr (w : World) (p : Nat) (c s x y : Int) : Arr (WL5 w p c s x y) (w.heap.size + 1 + 1 + 1 + 1) (fun _ => false) := by
  have := Arr.new ((((w.alloc (.cells #[ptr p] 37)).alloc (.cells #[.int .i64 c, .int .i64 s] 23)).alloc (.cells #[.int .i64 x, .int .i64 y] 25)).alloc (.cells #[.bool false, .bool false, .bool false, .bool false, .bool false, .bool false, .bool false, .bool false] 44))
  simpa using this
theorem arr_own {B b : Nat} {F : List (Fin 8) → Nat → Bool} : OwnFrom B (fun (pre : List (Fin 8)) W => Arr W b (F pre)) := fun s X Y row hs hg hr => hs.own hg (fun r e => (hr r e).2)
theorem bw_lt {k : Nat} (h4 : 4 ≤ k) (h8 : k < 8) : bwA k < 4 ∧ bwB k < 4 := by unfold bwA bwB; omega
theorem Arr.congr {w : World} {b : Nat} {f g : Nat → Bool} (h : Arr w b f) (e : ∀ k, k < 8 → f k = g k) : Arr w b g := by
  unfold Arr at h ⊢
  rw [e 0 (by decide), e 1 (by decide), e 2 (by decide), e 3 (by decide), e 4 (by decide), e 5 (by decide), e 6 (by decide), e 7 (by decide)] at h
  exact h
theorem st_has {W H : Int} {tl : List Nat} {f : Int → Int → Option Int} {c s u v : Int} (h : stB W H tl f c s u v = true) : has 0 0 W H u v = true := by
  simp only [stB, stU, wi, Bool.and_eq_true] at h
  obtain ⟨⟨hm, h1, -⟩, -⟩ := h
  cases hb : fB c s u v
  · rw [fi_no hb] at hm
    have := ((may_iff _ _ _ _).1 hm).2.1
    rw [fi_no hb] at this
    omega
  · rw [fi_yes hb, fi_yes hb] at h1
    exact h1
theorem has_near {W H u v : Int} (h : has 0 0 W H u v = true) : nrC u v = true := by
  obtain ⟨hm, h1, h2, h3, h4⟩ := (has_iff _ _ _ _ _ _).1 h
  obtain ⟨-, ⟨a0, a1⟩, ⟨b0, b1⟩, -⟩ := (may_iff _ _ _ _).1 hm
  rw [nrC_iff]
  omega
theorem sides_two (S : Int → Int → Bool) (x y : Int) {k : Nat} (h4 : 4 ≤ k) (h8 : k < 8) :
    (S (x + dX (bwA k)) (y + dY (bwA k)) && S (x + dX (bwB k)) (y + dY (bwB k))) = (S (x + dX k) y && S x (y + dY k)) := by
  match k, h4, h8 with
  | 4, _, _ => simp [bwA, bwB, dX, dY]
  | 5, _, _ => simp [bwA, bwB, dX, dY, Bool.and_comm]
  | 6, _, _ => simp [bwA, bwB, dX, dY]
  | 7, _, _ => simp [bwA, bwB, dX, dY, Bool.and_comm]
/-- What the loop tells of a direction is what Steps tells. -/
theorem leg_eq {W H : Int} {tl : List Nat} {f : Int → Int → Option Int} {c s x y : Int} (g : stB W H tl f c s x y = true) (k : Nat) (hk : k < 8) :
    arrF (fun k => stB W H tl f c s (x + dX k) (y + dY k)) (roundN x y 0 0 W H 8) k = lg (stB W H tl f c s) x y k := by
  have hr : roundN x y 0 0 W H 8 = (List.finRange 8).filter (fun j => inn x y 0 0 W H j.val) := rfl
  rw [hr, arrF_all _ (inn x y 0 0 W H) k hk]
  have hin : ∀ j : Nat, j < 8 → stB W H tl f c s (x + dX j) (y + dY j) = true → inn x y 0 0 W H j = true ∧ sB x y j = true := fun j hj h => by
    have h1 := st_has h
    have h2 : sB x y (j : Int) = true := by
      have hd : isD (j : Int) = true := (isD_iff _).2 (by omega)
      simp [sB, hd, has_near (st_has g), has_near h1]
    exact ⟨by simp [inn, h2, h1], h2⟩
  have hsx : ∀ j : Nat, j < 8 → (inn x y 0 0 W H j && stB W H tl f c s (x + dX j) (y + dY j)) = stB W H tl f c s (x + dX j) (y + dY j) := fun j hj => by
    cases h : stB W H tl f c s (x + dX j) (y + dY j)
    · simp
    · simp [(hin j hj h).1]
  cases h : stB W H tl f c s (x + dX k) (y + dY k)
  · have hR : lg (stB W H tl f c s) x y k = false := by
      cases hs : sB x y (k : Int)
      · simp [lg, hs]
      · simp only [lg, sX_yes hs, sY_yes hs, Int.toNat_natCast, h, Bool.false_and, Bool.and_false]
    rw [hR]
    by_cases h4 : 4 ≤ k
    · simp [h4]
    · simp [h4]
  · obtain ⟨hi, hs⟩ := hin k hk h
    rw [hi, Bool.true_and]
    by_cases h4 : 4 ≤ k
    · have hb := bw_lt h4 hk
      have hoc : oc (k : Int) = true := by simp [oc]; omega
      have hsi : siB x y (k : Int) = true := by simp [siB, hs, hoc]
      rw [if_pos h4, Bool.true_and, hsx _ (by omega), hsx _ (by omega), sides_two (stB W H tl f c s) x y h4 hk]
      simp only [lg, hs, g, sX_yes hs, sY_yes hs, Int.toNat_natCast, h, hsi, siX, siY, si0, if_true, Bool.true_and, Bool.not_true, Bool.false_or]
    · have hoc : oc (k : Int) = false := by simp [oc]; omega
      have hsi : siB x y (k : Int) = false := by simp [siB, hoc]
      rw [if_neg h4]
      simp only [lg, hs, g, sX_yes hs, sY_yes hs, Int.toNat_natCast, h, hsi, Bool.true_and, Bool.not_false, Bool.true_or]
theorem below_set8 {n : Nat} {w w1 : World} {b : Nat} (h : Below n w w1) (hb : n ≤ b) (v : Nat → Value) :
    Below n w ((((((((w1.setCell ⟨b, 0, none⟩ (v 0)).setCell ⟨b, 1, none⟩ (v 1)).setCell ⟨b, 2, none⟩ (v 2)).setCell ⟨b, 3, none⟩ (v 3)).setCell ⟨b, 4, none⟩ (v 4)).setCell ⟨b, 5, none⟩ (v 5)).setCell ⟨b, 6, none⟩ (v 6)).setCell ⟨b, 7, none⟩ (v 7)) :=
  (((((((h.setCell hb _).setCell hb _).setCell hb _).setCell hb _).setCell hb _).setCell hb _).setCell hb _).setCell hb _
theorem lg_out {S : Int → Int → Bool} {x y : Int} (h : S x y = false) (k : Int) : lg S x y k = false := by simp [lg, h]
set_option maxRecDepth 100000 in
set_option maxHeartbeats 4000000 in
theorem ls_any (p : Nat) (W H : Int) (tl : List Nat) (f : Int → Int → Option Int) (c s x y : Int) (w : World) (hw : Wl w p W H tl f) (hg : Grnd w) (ho : Offs w)
    (HS : ∀ wx, Below w.heap.size w wx → ∀ x y, Calls Tryd.prog 16 #[ptr p, shv c s, cel x y] wx fun e w' => e = .returned (.bool (stB W H tl f c s x y)) ∧ Below wx.heap.size wx w') :
    Calls Tryd.prog 41 #[ptr p, shv c s, cel x y] w fun e w' => e = .returned (arrV (fun k => lg (stB W H tl f c s) x y k)) ∧ Below w.heap.size w w' := by
  obtain ⟨G, hG⟩ : ∃ G : Nat → Bool, (fun k : Nat => lg (stB W H tl f c s) x y (k : Int)) = G := ⟨_, rfl⟩
  rw [show arrV (fun k => lg (stB W H tl f c s) x y k) = arrV G by rw [← hG]]
  have B5 := wl5_below w p c s x y
  have z5 := wl5_size w p c s x y
  have P5 := wl5_ptr w p c s x y
  have S5 := wl5_shape w p c s x y
  have C5 := wl5_cell w p c s x y
  have R5 := wl5_res w p c s x y
  have A5 := wl5_arr w p c s x y
  have HF := hide (HS _ B5 x y)
  unfold WL5 at B5 z5 P5 S5 C5 R5 A5 HF
  obtain ⟨X, hX⟩ : ∃ X, ((((w.alloc (.cells #[ptr p] 37)).alloc (.cells #[.int .i64 c, .int .i64 s] 23)).alloc (.cells #[.int .i64 x, .int .i64 y] 25)).alloc (.cells #[.bool false, .bool false, .bool false, .bool false, .bool false, .bool false, .bool false, .bool false] 44)).alloc (.cells #[.bool false, .bool false, .bool false, .bool false, .bool false, .bool false, .bool false, .bool false] 44) = X := ⟨_, rfl⟩
  rw [hX] at B5 z5 P5 S5 C5 R5 A5 HF
  have pc := P5.cell
  obtain ⟨⟨s0, s1⟩, -, -⟩ := id S5
  obtain ⟨⟨c0, c1⟩, -, -⟩ := id C5
  refine (callsIn_wide (n := 10)).1 ?_
  refine callsIn_of_wp_marks Tryd.func41 rfl trivial ?_ rfl
  simp only [Tryd.ntmps41, List.size_toArray, List.length_cons, List.length_nil, Nat.reduceAdd, Nat.reduceSub, Array.replicate_succ, Array.replicate_zero, List.push_toArray, List.append_toArray, List.nil_append, List.cons_append]
  gi_wp2_with fail
  refine ⟨trivial, ?_⟩
  refine (callsIn_wide.2 HF.out).mono ?_
  rintro e w1 ⟨rfl, hb1⟩
  clear hX pc s0 s1 c0 c1 HF
  have z1 := hb1.size
  have P1 := boxed_upto P5 hb1 (by omega)
  have S1 := S5.kept hb1
  have C1 := C5.kept hb1
  have R1 := R5.kept hb1
  have A1 := A5.kept hb1
  have B1 := bt B5 hb1
  clear P5 S5 C5 R5 A5 B5 hb1
  cases g : stB W H tl f c s x y
  · obtain rfl : G = fun _ => false := hG.symm.trans (funext fun k => lg_out g k)
    clear hG
    have a0 := A1.c (k := 0) (by decide)
    have a1 := A1.c (k := 1) (by decide)
    have a2 := A1.c (k := 2) (by decide)
    have a3 := A1.c (k := 3) (by decide)
    have a4 := A1.c (k := 4) (by decide)
    have a5 := A1.c (k := 5) (by decide)
    have a6 := A1.c (k := 6) (by decide)
    have a7 := A1.c (k := 7) (by decide)
    have r0 := R1.c (k := 0) (by decide)
    have q0 := R1.f 0
    have r1 := R1.c (k := 1) (by decide)
    have q1 := R1.f 1
    have r2 := R1.c (k := 2) (by decide)
    have q2 := R1.f 2
    have r3 := R1.c (k := 3) (by decide)
    have q3 := R1.f 3
    have r4 := R1.c (k := 4) (by decide)
    have q4 := R1.f 4
    have r5 := R1.c (k := 5) (by decide)
    have q5 := R1.f 5
    have r6 := R1.c (k := 6) (by decide)
    have q6 := R1.f 6
    have r7 := R1.c (k := 7) (by decide)
    have q7 := R1.f 7
    gi_wp2_with fail
    refine ⟨arrV (fun _ => false), by simp [results, Tryd.f41, go_sem, r0, r1, r2, r3, r4, r5, r6, r7], rfl, ?_⟩
    exact below_set8 B1 (by omega) (fun _ => .bool false)
  · have HB1 : Hid (∀ n : Lat w1, Below w.heap.size w n.w) := hide fun n => bt B1 n.h
    have HK : Hid (∀ n : Lat w1, Wl n.w p W H tl f) := hide fun n => hw.kept (HB1.out n)
    have pc := P1.cell
    obtain ⟨⟨c0, c1⟩, -, -⟩ := id C1
    gi_wp2_with fail
    refine Code.wpIn_mono (Q := Only (fun a' w' => ∃ (n : Lat w1), a' = { tmps := #[ptr p, shv c s, cel x y, ptr w.heap.size, ptr (w.heap.size + 1), ptr (w.heap.size + 1 + 1), ptr (w.heap.size + 1 + 1 + 1), ptr (w.heap.size + 1 + 1 + 1 + 1), undef, undef, undef, undef, ptr p, shv c s, cel x y, .bool true, .bool false, undef, cel x y, ptr p, rct 0 0 W H, .func (.func 67) #[] #[ptr n.w.heap.size, ptr (n.w.heap.size + 1)], undef, undef, undef, undef, undef, undef, undef, undef, undef, undef, undef, undef, undef, undef, undef, undef, undef, undef, undef, undef, undef, undef, undef, undef, undef, undef, undef, undef, undef, undef, undef], defers := [] } ∧ w' = (n.w.alloc (.cells #[.int .i64 x, .int .i64 y] 25)).alloc (.cells #[.int .i64 0, .int .i64 0, .int .i64 W, .int .i64 H] 29))) ?rest ?_
    case rest =>
      rintro (_ | _ | _ | _ | _) a' w' hO
      all_goals first | exact hO.elim | skip
      obtain ⟨n, rfl, rfl⟩ := hO
      clear pc c0 c1
      have BY := bt n.h (box2 n.w (.cells #[.int .i64 x, .int .i64 y] 25) (.cells #[.int .i64 0, .int .i64 0, .int .i64 W, .int .i64 H] 29))
      have T0 : Two ((n.w.alloc (.cells #[.int .i64 x, .int .i64 y] 25)).alloc (.cells #[.int .i64 0, .int .i64 0, .int .i64 W, .int .i64 H] 29)) n.w.heap.size x y := (Two.newAt rfl).alloc
      have F0 : Four ((n.w.alloc (.cells #[.int .i64 x, .int .i64 y] 25)).alloc (.cells #[.int .i64 0, .int .i64 0, .int .i64 W, .int .i64 H] 29)) (n.w.heap.size + 1) 0 0 W H := by
        simp [Four, go_sem]
      have hsz : ((n.w.alloc (.cells #[.int .i64 x, .int .i64 y] 25)).alloc (.cells #[.int .i64 0, .int .i64 0, .int .i64 W, .int .i64 H] 29)).heap.size = n.w.heap.size + 2 := by simp
      obtain ⟨W0, hW0⟩ : ∃ W0, (n.w.alloc (.cells #[.int .i64 x, .int .i64 y] 25)).alloc (.cells #[.int .i64 0, .int .i64 0, .int .i64 W, .int .i64 H] 29) = W0 := ⟨_, rfl⟩
      rw [hW0] at BY T0 F0 hsz
      have zn := n.h.size
      obtain ⟨Bb, hBb⟩ : ∃ Bb, n.w.heap.size = Bb := ⟨_, rfl⟩
      gi_wp2_with fail
      rw [hW0]
      rw [hBb] at T0 F0 hsz zn ⊢
      clear hW0
      have P0 := boxed_upto P1 BY P1.lt
      have S0 := S1.kept BY
      have R0 := R1.kept BY
      have A0 := A1.kept BY
      have HB0 : Below w.heap.size w W0 := bt B1 BY
      have ho0 : Offs W0 := ho.kept HB0
      clear P1 S1 R1 A1 C1
      refine wpIn_rangeFunc_ownH rfl (by omega) (gf := 67) (lb := #[ptr Bb, ptr (Bb + 1)]) rfl trivial (enters_of Tryd.func67 (by kernel_rfl) rfl)
        (around_stopsK (10 - 1) Bb (Bb + 1) x y 0 0 W H W0 ho0 T0 F0) KA.trans (kA_b (by omega) (by omega) ho0.1) (Below.refl _ _) (fun _ => rfl)
        (fun pre W' => Arr W' (w.heap.size + 1 + 1 + 1 + 1) (arrF (fun k => stB W H tl f c s (x + dX k) (y + dY k)) pre) ∧ Below (w.heap.size + 1 + 1 + 1 + 1) W0 W')
        (fun _ _ _ => False)
        (OwnFrom.and arr_own (ownFrom_below (by omega) (by omega)))
        (fun e s X Y row hs => hs.elim)
        ⟨A0, Below.refl _ _⟩
        (fun q a' W' => ∃ Bx, Bb + 1 < Bx ∧ Two W' Bx (x + dX q.val) (y + dY q.val) ∧ a' = { tmps := #[ptr p, shv c s, cel x y, ptr w.heap.size, ptr (w.heap.size + 1), ptr (w.heap.size + 1 + 1), ptr (w.heap.size + 1 + 1 + 1), ptr (w.heap.size + 1 + 1 + 1 + 1), .int .i64 (q.val : Int), ptr Bx, undef, undef, ptr p, shv c s, cel x y, .bool true, .bool false, undef, cel x y, ptr p, rct 0 0 W H, .func (.func 67) #[] #[ptr Bb, ptr (Bb + 1)], .int .i64 (q.val : Int), cel (x + dX q.val) (y + dY q.val), undef, undef, undef, undef, undef, undef, undef, undef, undef, undef, undef, undef, undef, undef, undef, undef, undef, undef, undef, undef, undef, undef, undef, undef, undef, undef, undef, undef, undef], defers := [] })
        (fun q a' _ X Y row hs hg hr => by obtain ⟨Bx, e1, e2, e3⟩ := hs; exact ⟨Bx, e1, e2.own hg (fun r e => (hr r e).2), e3⟩)
        ?assign ?body ?done ?stop
      case assign =>
        rintro l pre q W' K ⟨hp, hB⟩ hK
        have hsB := hB.size
        gi_wp2
        exact hK _ _ ((KeepsOthers.alloc _ _).from _) (KA.below (box1 _ _) (by omega) (by omega) (by have := ho0.1; omega)) ⟨hp.kept (box1 _ _), hB.alloc (by omega) _⟩ ⟨W'.heap.size, by omega, Two.newAt rfl, rfl⟩
      case body =>
        rintro l pre q a' W' hl ⟨r, hr⟩ ⟨hp, hB⟩ ⟨Bx, hBx, bX, rfl⟩ hlt
        have hsB := hB.size
        have bP := boxed_upto P0 hB (by omega)
        have bS := S0.upto hB (by omega)
        have HBW : Below w.heap.size w W' := HB0.trans (hB.mono (by omega))
        have cP := bP.cell
        obtain ⟨⟨s0, s1⟩, -, -⟩ := bS
        obtain ⟨⟨x0, x1⟩, -, -⟩ := id bX
        obtain ⟨k, hk⟩ := q
        simp only at bX x0 x1
        have hk0 : (0 : Int) ≤ (k : Int) := by omega
        have hk8 : (k : Int) < 8 := by omega
        obtain ⟨Sv, hSv⟩ : ∃ Sv, stB W H tl f c s (x + dX k) (y + dY k) = Sv := ⟨_, rfl⟩
        have HSt := hide (HS W' HBW (x + dX k) (y + dY k))
        rw [hSv] at HSt
        gi_wp2_with fail
        refine ⟨trivial, ?_⟩
        refine (CallsIn.inRound l (callsIn_wide.2 HSt.out)).mono ?_
        rintro e v1 ⟨rfl, hb⟩
        have Av := hp.kept hb
        have cA := Av.c hk
        have fA := Av.f k
        clear cP s0 s1 x0 x1
        have A2 := Av.set hk Sv
        have B2 : Below (w.heap.size + 1 + 1 + 1 + 1) W0 (v1.setCell ⟨w.heap.size + 1 + 1 + 1 + 1, k, none⟩ (.bool Sv)) := (hB.trans (hb.mono (by omega))).setCell (p := ⟨w.heap.size + 1 + 1 + 1 + 1, k, none⟩) (by simp) _
        have K2 : KA Bb (Bb + 1) W' (v1.setCell ⟨w.heap.size + 1 + 1 + 1 + 1, k, none⟩ (.bool Sv)) := (KA.below hb (by omega) (by omega) (by have := ho0.1; omega)).trans ⟨Below.heap_setCell _ _ _ _ (by simp; omega), Below.heap_setCell _ _ _ _ (by simp; omega), Below.heap_setCell _ _ _ _ (by simp)⟩
        have O2 : KeepsOthers W' (v1.setCell ⟨w.heap.size + 1 + 1 + 1 + 1, k, none⟩ (.bool Sv)) := (keeps_below hb).trans (KeepsOthers.setCell _ _ _)
        by_cases h4 : 4 ≤ k
        · have h4i : (4 : Int) ≤ (k : Int) := by omega
          have hbw := bw_lt h4 hk
          have HBt := hide (between_any k h4 hk (v1.setCell ⟨w.heap.size + 1 + 1 + 1 + 1, k, none⟩ (.bool Sv)))
          have hupd : ∀ t, (if 4 ≤ k then Sv && (arrF (fun k => stB W H tl f c s (x + dX k) (y + dY k)) pre (bwA k) && arrF (fun k => stB W H tl f c s (x + dX k) (y + dY k)) pre (bwB k)) else Sv) = t → (fun j => if j = k then t else if j = k then Sv else arrF (fun k => stB W H tl f c s (x + dX k) (y + dY k)) pre j) = arrF (fun k => stB W H tl f c s (x + dX k) (y + dY k)) (pre ++ [⟨k, hk⟩]) := fun t ht => by
            rw [arrF_snoc]
            funext j
            unfold upd
            by_cases hj : j = k
            · simp only [hj, if_true]; rw [← ht, hSv]
            · simp only [hj, if_false]
          have HU := hide hupd
          rw [if_pos h4] at hupd
          obtain ⟨fa, hfa⟩ : ∃ fa, arrF (fun k => stB W H tl f c s (x + dX k) (y + dY k)) pre (bwA k) = fa := ⟨_, rfl⟩
          obtain ⟨fb, hfb⟩ : ∃ fb, arrF (fun k => stB W H tl f c s (x + dX k) (y + dY k)) pre (bwB k) = fb := ⟨_, rfl⟩
          have xk := A2.c hk
          have xa := A2.c (k := bwA k) (by omega)
          have xb := A2.c (k := bwB k) (by omega)
          have fk := A2.f k
          simp only [if_true] at xk
          rw [if_neg (by omega), hfa] at xa
          rw [if_neg (by omega), hfb] at xb
          have HU2 := hide (hupd)
          rw [hfa, hfb] at hupd
          have HU3 := hide hupd
          clear hupd HU HU2
          obtain ⟨w2, hw2⟩ : ∃ w2, v1.setCell ⟨w.heap.size + 1 + 1 + 1 + 1, k, none⟩ (.bool Sv) = w2 := ⟨_, rfl⟩
          rw [hw2] at A2 B2 K2 O2 HBt xk xa xb fk
          obtain ⟨ia, hia⟩ : ∃ ia, bwA k = ia := ⟨_, rfl⟩
          obtain ⟨ib, hib⟩ : ∃ ib, bwB k = ib := ⟨_, rfl⟩
          rw [hia, hib] at HBt
          rw [hia] at xa
          rw [hib] at xb
          have hia4 : (0 : Int) ≤ (ia : Int) ∧ (ia : Int) < 8 := by omega
          have hib4 : (0 : Int) ≤ (ib : Int) ∧ (ib : Int) < 8 := by omega
          clear hia hib hfa hfb hbw
          gi_wp2_with fail
          refine ⟨trivial, ?_⟩
          refine (CallsIn.inRound l (callsIn_wide.2 HBt.out)).mono ?_
          rintro e w3 ⟨rfl, rfl⟩
          have K3 : ∀ t, KA Bb (Bb + 1) W' (w3.setCell ⟨w.heap.size + 1 + 1 + 1 + 1, k, none⟩ (.bool t)) := fun t => K2.trans ⟨Below.heap_setCell _ _ _ _ (by simp; omega), Below.heap_setCell _ _ _ _ (by simp; omega), Below.heap_setCell _ _ _ _ (by simp)⟩
          have E3 : ∀ t, (Sv && (fa && fb)) = t → Arr (w3.setCell ⟨w.heap.size + 1 + 1 + 1 + 1, k, none⟩ (.bool t)) (w.heap.size + 1 + 1 + 1 + 1) (arrF (fun k => stB W H tl f c s (x + dX k) (y + dY k)) (pre ++ [⟨k, hk⟩])) := fun t ht => by
            have := A2.set hk t
            rw [HU3.out t ht] at this
            exact this
          have HK3 := hide K3
          have HE3 := hide E3
          clear hw2 HBt cA fA K3 E3 HU3
          cases Sv <;> cases fa
          all_goals
            gi_wp2_with fail
            exact ⟨(O2.trans (KeepsOthers.setCell _ _ _)).from _, HK3.out _, HE3.out _ (by simp), B2.setCell (p := ⟨w.heap.size + 1 + 1 + 1 + 1, k, none⟩) (by simp) _⟩
        · have h4i : ¬ (4 : Int) ≤ (k : Int) := by omega
          have hupd : (fun j => if j = k then Sv else arrF (fun k => stB W H tl f c s (x + dX k) (y + dY k)) pre j) = arrF (fun k => stB W H tl f c s (x + dX k) (y + dY k)) (pre ++ [⟨k, hk⟩]) := by
            rw [arrF_snoc]
            funext j
            unfold upd
            by_cases hj : j = k
            · simp only [hj, if_true, if_neg h4]; exact hSv.symm
            · simp only [hj, if_false]
          rw [hupd] at A2
          clear hupd
          gi_wp2_with fail
          exact ⟨O2.from _, K2, A2, B2⟩
      case done =>
        rintro D xs W' hD rfl ⟨hp, hB⟩ hK
        have hsW := hB.size
        have HBW : Below w.heap.size w W' := HB0.trans (hB.mono (by omega))
        have AG : Arr W' (w.heap.size + 1 + 1 + 1 + 1) G := hp.congr (fun k hk => by rw [leg_eq g k hk, ← hG])
        have RW := R0.upto hB (by omega)
        have a0 := AG.c (k := 0) (by decide)
        have a1 := AG.c (k := 1) (by decide)
        have a2 := AG.c (k := 2) (by decide)
        have a3 := AG.c (k := 3) (by decide)
        have a4 := AG.c (k := 4) (by decide)
        have a5 := AG.c (k := 5) (by decide)
        have a6 := AG.c (k := 6) (by decide)
        have a7 := AG.c (k := 7) (by decide)
        have r0 := RW.c (k := 0) (by decide)
        have q0 := RW.f 0
        have r1 := RW.c (k := 1) (by decide)
        have q1 := RW.f 1
        have r2 := RW.c (k := 2) (by decide)
        have q2 := RW.f 2
        have r3 := RW.c (k := 3) (by decide)
        have q3 := RW.f 3
        have r4 := RW.c (k := 4) (by decide)
        have q4 := RW.f 4
        have r5 := RW.c (k := 5) (by decide)
        have q5 := RW.f 5
        have r6 := RW.c (k := 6) (by decide)
        have q6 := RW.f 6
        have r7 := RW.c (k := 7) (by decide)
        have q7 := RW.f 7
        gi_wp2_with fail
        obtain ⟨WE, hWE⟩ : ∃ WE, ((((((((W'.setCell ⟨w.heap.size + 1 + 1 + 1, 0, none⟩ (.bool (G 0))).setCell ⟨w.heap.size + 1 + 1 + 1, 1, none⟩ (.bool (G 1))).setCell ⟨w.heap.size + 1 + 1 + 1, 2, none⟩ (.bool (G 2))).setCell ⟨w.heap.size + 1 + 1 + 1, 3, none⟩ (.bool (G 3))).setCell ⟨w.heap.size + 1 + 1 + 1, 4, none⟩ (.bool (G 4))).setCell ⟨w.heap.size + 1 + 1 + 1, 5, none⟩ (.bool (G 5))).setCell ⟨w.heap.size + 1 + 1 + 1, 6, none⟩ (.bool (G 6))).setCell ⟨w.heap.size + 1 + 1 + 1, 7, none⟩ (.bool (G 7))) = WE := ⟨_, rfl⟩
        have BE : Below w.heap.size w WE := by rw [← hWE]; exact below_set8 HBW (by omega) (fun k => .bool (G k))
        have hKE : WE.heap[D]? = some (.deferred (some [])) := by
          have hKK : KeepsOthers W' WE := by
            rw [← hWE]
            exact (((((((KeepsOthers.setCell _ _ _).trans (KeepsOthers.setCell _ _ _)).trans (KeepsOthers.setCell _ _ _)).trans (KeepsOthers.setCell _ _ _)).trans (KeepsOthers.setCell _ _ _)).trans (KeepsOthers.setCell _ _ _)).trans (KeepsOthers.setCell _ _ _)).trans (KeepsOthers.setCell _ _ _)
          exact hKK.same D _ hK rfl
        have AE : Arr WE (w.heap.size + 1 + 1 + 1) G := by
          rw [← hWE]
          exact ((((((((RW.set (k := 0) (by decide) (G 0)).set (k := 1) (by decide) (G 1)).set (k := 2) (by decide) (G 2)).set (k := 3) (by decide) (G 3)).set (k := 4) (by decide) (G 4)).set (k := 5) (by decide) (G 5)).set (k := 6) (by decide) (G 6)).set (k := 7) (by decide) (G 7)).congr (fun k hk => by
            match k, hk with
            | 0, _ | 1, _ | 2, _ | 3, _ | 4, _ | 5, _ | 6, _ | 7, _ => rfl)
        rw [hWE]
        refine ⟨by simp, .inl ⟨_, _, rfl, run_takeDeferred hKE, ?_⟩⟩
        have AF := AE.own (grownBy_putObj' _ D (.deferred none)) (fun r e => by cases e; exact ⟨_, hKE, rfl⟩)
        refine ⟨arrV G, ?_, rfl, BE.trans (belowK_b (w := w) (Nat.le_refl _) _ D _ _ (by omega) hKE rfl rfl)⟩
        simp [results, Tryd.f41, go_sem, AF.c (k := 0) (by decide), AF.c (k := 1) (by decide), AF.c (k := 2) (by decide), AF.c (k := 3) (by decide), AF.c (k := 4) (by decide), AF.c (k := 5) (by decide), AF.c (k := 6) (by decide), AF.c (k := 7) (by decide)]
      case stop =>
        rintro D e pre W' hD hpre hF
        exact hF.elim
    gi_region_with (first | (refine ⟨trivial, ?_⟩; refine (callsIn_wide.2 (all_is (HK.out ⟨_, (Below.refl _ _).drew⟩))).mono ?_; rintro e w2 ⟨rfl, hb2⟩; have pc2 := (hb2.cell (p := ⟨w.heap.size, 0, none⟩) P1.lt).trans pc; have c02 := (hb2.cell (p := ⟨w.heap.size + 1 + 1, 0, none⟩) C1.2.2).trans c0; have c12 := (hb2.cell (p := ⟨w.heap.size + 1 + 1, 1, none⟩) C1.2.2).trans c1) | (refine ⟨trivial, ?_⟩; refine (callsIn_wide.2 (around_any _ _ _ _ _ _ _)).mono ?_; rintro e w3 ⟨rfl, rfl⟩))
    all_goals exact ⟨⟨w2, bt (Below.refl _ _).drew hb2⟩, rfl, rfl⟩
end Go.Proofs.YthacppifndakjaaDoor
