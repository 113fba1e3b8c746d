/-
  phalanxlaw03.CellAround, walked.
-/
import Derived.Test.YtebapnoaegdejaaDoorAroundSeq
import Derived.Test.YtebapnoaegdejaaDoorGoesWalk
namespace Go.Proofs.YtebapnoaegdejaaDoor
open Go.RowKit Go.Shelf
set_option linter.unusedVariables false
attribute [local go_sem] Oper.semAt_some
set_option maxHeartbeats 1000000 in
theorem around_any (x y p q a b : Int) (w : World) :
    Calls Tryd.prog 22 #[.agg #[.int .i64 x, .int .i64 y], .agg #[.int .i64 p, .int .i64 q, .int .i64 a, .int .i64 b]] w fun e w' => e = .returned (.func (.func 45) #[] #[.pointer (some ⟨w.heap.size, 0, none⟩), .pointer (some ⟨w.heap.size + 1, 0, none⟩)]) ∧ w' = (w.alloc (.cells #[.int .i64 x, .int .i64 y] 23)).alloc (.cells #[.int .i64 p, .int .i64 q, .int .i64 a, .int .i64 b] 34) := by
  go_enter Tryd.func22, Tryd.ntmps22
  go_wp2_with fail
  go_ret
  exact ⟨rfl, rfl⟩
theorem func_nil2 (p q : Option Addr) (w : World) : Sem.run Tryd.prog (binOp BinOp.eql 36 (.func (.func 45) #[] #[.pointer p, .pointer q]) .nilFunc) w = .ok (.bool false) w := by kernel_rfl
abbrev V8 (w : World) (x y p q a b m : Int) : World := ((((((((w.alloc (.cells #[.int .i64 x, .int .i64 y] 23)).alloc (.cells #[.int .i64 p, .int .i64 q, .int .i64 a, .int .i64 b] 34)).alloc (.cells #[.int .u8 m] 5)).alloc (.cells #[.bool false] 4)).alloc (.cells #[.int .i64 x, .int .i64 y] 23)).alloc (.cells #[.int .i64 p, .int .i64 q, .int .i64 a, .int .i64 b] 34)).alloc (.cells #[.int .i64 0] 3)).alloc (.cells #[.int .i64 0] 3))
theorem v8_below (w : World) (x y p q a b m : Int) : Below w.heap.size w (V8 w x y p q a b m) := bt (bt (bt (box2 _ _ _) (box2 _ _ _)) (box2 _ _ _)) (box2 _ _ _)
theorem v8_size (w : World) (x y p q a b m : Int) : (V8 w x y p q a b m).heap.size = w.heap.size + 8 := by simp
theorem v8_c (w : World) (x y p q a b m : Int) : Two (V8 w x y p q a b m) w.heap.size x y := cells2 (bt (bt (bt (box1 _ _) (box2 _ _ _)) (box2 _ _ _)) (box2 _ _ _))
theorem v8_in (w : World) (x y p q a b m : Int) : Four (V8 w x y p q a b m) (w.heap.size + 1) p q a b := by
  have := cells4 (w := w.alloc (.cells #[.int .i64 x, .int .i64 y] 23)) (a := .int .i64 p) (b := .int .i64 q) (c := .int .i64 a) (d := .int .i64 b) (t := 34) (bt (bt (box2 _ (.cells #[.int .u8 m] 5) (.cells #[.bool false] 4)) (box2 _ (.cells #[.int .i64 x, .int .i64 y] 23) (.cells #[.int .i64 p, .int .i64 q, .int .i64 a, .int .i64 b] 34))) (box2 _ (.cells #[.int .i64 0] 3) (.cells #[.int .i64 0] 3)))
  simpa [Four] using this
theorem v8_most (w : World) (x y p q a b m : Int) : Boxed (V8 w x y p q a b m) (w.heap.size + 1 + 1) 5 (.int .u8 m) := by
  have := boxed_upto (Boxed.new ((w.alloc (.cells #[.int .i64 x, .int .i64 y] 23)).alloc (.cells #[.int .i64 p, .int .i64 q, .int .i64 a, .int .i64 b] 34)) 5 (.int .u8 m)) (bt (bt (box1 _ (.cells #[.bool false] 4)) (box2 _ (.cells #[.int .i64 x, .int .i64 y] 23) (.cells #[.int .i64 p, .int .i64 q, .int .i64 a, .int .i64 b] 34))) (box2 _ (.cells #[.int .i64 0] 3) (.cells #[.int .i64 0] 3))) (by simp)
  simpa using this
theorem v8_res (w : World) (x y p q a b m : Int) : Boxed (V8 w x y p q a b m) (w.heap.size + 1 + 1 + 1) 4 (.bool false) := by
  have := boxed_upto (Boxed.new (((w.alloc (.cells #[.int .i64 x, .int .i64 y] 23)).alloc (.cells #[.int .i64 p, .int .i64 q, .int .i64 a, .int .i64 b] 34)).alloc (.cells #[.int .u8 m] 5)) 4 (.bool false)) (bt (box2 _ (.cells #[.int .i64 x, .int .i64 y] 23) (.cells #[.int .i64 p, .int .i64 q, .int .i64 a, .int .i64 b] 34)) (box2 _ (.cells #[.int .i64 0] 3) (.cells #[.int .i64 0] 3))) (by simp)
  simpa using this
theorem v8_oc (w : World) (x y p q a b m : Int) : Two (V8 w x y p q a b m) (w.heap.size + 1 + 1 + 1 + 1) x y := by
  have := cells2 (w := ((((w.alloc (.cells #[.int .i64 x, .int .i64 y] 23)).alloc (.cells #[.int .i64 p, .int .i64 q, .int .i64 a, .int .i64 b] 34)).alloc (.cells #[.int .u8 m] 5)).alloc (.cells #[.bool false] 4))) (a := .int .i64 x) (b := .int .i64 y) (t := 23) (bt (box1 _ (.cells #[.int .i64 p, .int .i64 q, .int .i64 a, .int .i64 b] 34)) (box2 _ (.cells #[.int .i64 0] 3) (.cells #[.int .i64 0] 3)))
  simpa [Two] using this
theorem v8_oin (w : World) (x y p q a b m : Int) : Four (V8 w x y p q a b m) (w.heap.size + 1 + 1 + 1 + 1 + 1) p q a b := by
  have := cells4 (w := (((((w.alloc (.cells #[.int .i64 x, .int .i64 y] 23)).alloc (.cells #[.int .i64 p, .int .i64 q, .int .i64 a, .int .i64 b] 34)).alloc (.cells #[.int .u8 m] 5)).alloc (.cells #[.bool false] 4)).alloc (.cells #[.int .i64 x, .int .i64 y] 23))) (a := .int .i64 p) (b := .int .i64 q) (c := .int .i64 a) (d := .int .i64 b) (t := 34) (box2 _ (.cells #[.int .i64 0] 3) (.cells #[.int .i64 0] 3))
  simpa [Four] using this
theorem v8_next (w : World) (x y p q a b m : Int) : Boxed (V8 w x y p q a b m) (w.heap.size + 1 + 1 + 1 + 1 + 1 + 1) 3 (.int .i64 0) := by
  have := boxed_upto (Boxed.new ((((((w.alloc (.cells #[.int .i64 x, .int .i64 y] 23)).alloc (.cells #[.int .i64 p, .int .i64 q, .int .i64 a, .int .i64 b] 34)).alloc (.cells #[.int .u8 m] 5)).alloc (.cells #[.bool false] 4)).alloc (.cells #[.int .i64 x, .int .i64 y] 23)).alloc (.cells #[.int .i64 p, .int .i64 q, .int .i64 a, .int .i64 b] 34)) 3 (.int .i64 0)) (box1 _ (.cells #[.int .i64 0] 3)) (by simp)
  simpa using this
theorem v8_n (w : World) (x y p q a b m : Int) : Boxed (V8 w x y p q a b m) (w.heap.size + 1 + 1 + 1 + 1 + 1 + 1 + 1) 3 (.int .i64 0) := by
  have := Boxed.new (((((((w.alloc (.cells #[.int .i64 x, .int .i64 y] 23)).alloc (.cells #[.int .i64 p, .int .i64 q, .int .i64 a, .int .i64 b] 34)).alloc (.cells #[.int .u8 m] 5)).alloc (.cells #[.bool false] 4)).alloc (.cells #[.int .i64 x, .int .i64 y] 23)).alloc (.cells #[.int .i64 p, .int .i64 q, .int .i64 a, .int .i64 b] 34)).alloc (.cells #[.int .i64 0] 3)) 3 (.int .i64 0)
  simpa using this
theorem Two.upto {n₀ : Nat} {W W' : World} {k : Nat} {x y : Int} (h : Two W k x y) (hB : Below n₀ W W') (hk : k < n₀) : Two W' k x y :=
  ⟨⟨(hB.cell (p := ⟨k, 0, none⟩) hk).trans h.1.1, (hB.cell (p := ⟨k, 1, none⟩) hk).trans h.1.2⟩, ⟨(hB.frozen (p := ⟨k, 0, none⟩) hk).trans h.2.1.1, (hB.frozen (p := ⟨k, 1, none⟩) hk).trans h.2.1.2⟩, Nat.lt_of_lt_of_le h.2.2 hB.size⟩
def numAt (k : Nat) (w : World) : Nat := match w.cell? ⟨k, 0, none⟩ with
  | some v => (intOf v).toNat
  | none => 0
theorem numAt_is {k j : Nat} {w : World} (h : Boxed w k 3 (.int .i64 j)) : numAt k w = j := by simp [numAt, h.cell, intOf]
theorem two_other {W : World} {k B : Nat} {x y : Int} (h : Two W k x y) (hk : k ≠ B) (v : Value) : Two (W.setCell ⟨B, 0, none⟩ v) k x y :=
  ⟨⟨(World.cell?_setCell_other _ _ _ _ (by intro e; cases e; exact hk rfl)).trans h.1.1, (World.cell?_setCell_other _ _ _ _ (by intro e; cases e)).trans h.1.2⟩, ⟨by rw [World.frozen?_setCell]; exact h.2.1.1, by rw [World.frozen?_setCell]; exact h.2.1.2⟩, by simpa using h.2.2⟩
/-- The boxes next and n, and the rest as it was at W. -/
def St (h len : Nat) (W : World) (j : Nat) (wr : World) : Prop := (Boxed wr (h + 1 + 1 + 1 + 1 + 1 + 1) 3 (.int .i64 j) ∧ Boxed wr (h + 1 + 1 + 1 + 1 + 1 + 1 + 1) 3 (.int .i64 len)) ∧ KeepsOthers W wr ∧ Below (h + 1 + 1 + 1 + 1 + 1 + 1) W wr
theorem St.kept {h len j : Nat} {W wr w1 : World} (s : St h len W j wr) (hb : Below wr.heap.size wr w1) : St h len W j w1 :=
  ⟨⟨boxed_upto s.1.1 hb s.1.1.lt, boxed_upto s.1.2 hb s.1.2.lt⟩, s.2.1.trans (keeps_below hb), s.2.2.trans (hb.mono (Nat.le_of_lt s.1.1.lt))⟩
theorem St.next {h len j : Nat} {W wr : World} (s : St h len W j wr) : St h len W (j + 1) (wr.setCell ⟨h + 1 + 1 + 1 + 1 + 1 + 1, 0, none⟩ (.int .i64 ((j : Int) + 1))) :=
  ⟨⟨by have := s.1.1.set (.int .i64 ((j : Int) + 1)); simpa using this, s.1.2.other (by omega) _⟩, s.2.1.trans (KeepsOthers.setCell _ _ _), s.2.2.setCell (p := ⟨h + 1 + 1 + 1 + 1 + 1 + 1, 0, none⟩) (Nat.le_refl _) _⟩
theorem St.count {h len j : Nat} {W wr : World} (s : St h len W j wr) : St h (len + 1) W j (wr.setCell ⟨h + 1 + 1 + 1 + 1 + 1 + 1 + 1, 0, none⟩ (.int .i64 ((len : Int) + 1))) :=
  ⟨⟨s.1.1.other (by omega) _, by have := s.1.2.set (.int .i64 ((len : Int) + 1)); simpa using this⟩, s.2.1.trans (KeepsOthers.setCell _ _ _), s.2.2.setCell (p := ⟨h + 1 + 1 + 1 + 1 + 1 + 1 + 1, 0, none⟩) (Nat.le_succ _) _⟩
theorem inn_is {x y p q a b : Int} {k : Nat} {s t : Bool} (h1 : sB x y k = s) (h2 : has p q a b (x + dX k) (y + dY k) = t) : inn x y p q a b k = (s && t) := by rw [inn, h1, h2]
theorem inn_no {x y p q a b : Int} {k : Nat} (h1 : sB x y k = false) : inn x y p q a b k = false := by rw [inn, h1]; rfl
set_option maxRecDepth 100000 in
set_option maxHeartbeats 4000000 in
theorem around_walk (x y p q a b m : Int) (w : World) (hm : 0 ≤ m ∧ m ≤ 255) (ho : Offs w) :
    Calls Tryd.prog 4 #[.agg #[.int .i64 x, .int .i64 y], .agg #[.int .i64 p, .int .i64 q, .int .i64 a, .int .i64 b], .int .u8 m] w fun e w' => e = .returned (.bool true) ∧ Below w.heap.size w w' := by
  refine (callsIn_wide (n := 10)).1 ?_
  refine callsIn_of_wp_marks Tryd.func4 rfl trivial ?_ rfl
  simp only [Tryd.ntmps4, List.size_toArray, List.length_cons, List.length_nil, Nat.reduceAdd, Nat.reduceSub, Array.replicate_succ, Array.replicate_zero, List.push_toArray, List.append_toArray, List.nil_append, List.cons_append]
  gi_wp2_with fail
  refine ⟨trivial, ?_⟩
  refine (callsIn_wide.2 (around_any _ _ _ _ _ _ _)).mono ?_
  rintro e w1 ⟨rfl, rfl⟩
  have hfn := func_nil2
  gi_wp2_with fail
  clear hfn
  have HB0 := v8_below w x y p q a b m
  have hsz := v8_size w x y p q a b m
  have T0 := v8_c w x y p q a b m
  have F0 := v8_in w x y p q a b m
  have M0 := v8_most w x y p q a b m
  have R0 := v8_res w x y p q a b m
  have T4 := v8_oc w x y p q a b m
  have F5 := v8_oin w x y p q a b m
  have X0 := v8_next w x y p q a b m
  have N0 := v8_n w x y p q a b m
  unfold V8 at HB0 hsz T0 F0 M0 R0 T4 F5 X0 N0
  obtain ⟨W0, hW0⟩ : ∃ W0, ((((((((w.alloc (.cells #[.int .i64 x, .int .i64 y] 23)).alloc (.cells #[.int .i64 p, .int .i64 q, .int .i64 a, .int .i64 b] 34)).alloc (.cells #[.int .u8 m] 5)).alloc (.cells #[.bool false] 4)).alloc (.cells #[.int .i64 x, .int .i64 y] 23)).alloc (.cells #[.int .i64 p, .int .i64 q, .int .i64 a, .int .i64 b] 34)).alloc (.cells #[.int .i64 0] 3)).alloc (.cells #[.int .i64 0] 3)) = W0 := ⟨_, rfl⟩
  rw [hW0] at HB0 hsz T0 F0 M0 R0 T4 F5 X0 N0 ⊢
  clear hW0
  refine wpIn_rangeFunc_ownH rfl (by omega) (gf := 45) (lb := #[.pointer (some ⟨w.heap.size + 1 + 1 + 1 + 1, 0, none⟩), .pointer (some ⟨w.heap.size + 1 + 1 + 1 + 1 + 1, 0, none⟩)]) rfl trivial (enters_of Tryd.func45 (by kernel_rfl) rfl)
    (around_stops (10 - 1) (w.heap.size + 1 + 1 + 1 + 1) (w.heap.size + 1 + 1 + 1 + 1 + 1) (w.heap.size + 1 + 1 + 1 + 1 + 1 + 1) x y p q a b W0 (ho.kept HB0) (by omega) (by omega) (by omega) (by omega) T4 F5) belowK_t (belowK_b (by omega)) (Below.refl _ _) (fun _ => rfl)
    (fun pre W => ∃ k : Nat, (((k ≤ 8 ∧ pre = roundN x y p q a b k ∧ (pre.length : Int) ≤ m) ∧ Boxed W (w.heap.size + 1 + 1 + 1 + 1 + 1 + 1) 3 (.int .i64 k)) ∧ Boxed W (w.heap.size + 1 + 1 + 1 + 1 + 1 + 1 + 1) 3 (.int .i64 pre.length)) ∧ Below (w.heap.size + 1 + 1 + 1 + 1 + 1 + 1) W0 W)
    (fun c pre W => (c = .ret ∧ (pre <+: roundN x y p q a b 8 → Boxed W (w.heap.size + 1 + 1 + 1) 4 (.bool true))) ∧ Below w.heap.size w W)
    (fun s X Y row hs hg hr => by
      obtain ⟨k, ⟨⟨e1, e2⟩, e3⟩, e4⟩ := hs
      exact ⟨k, ⟨⟨e1, boxed_own (w.heap.size + 1 + 1 + 1 + 1 + 1 + 1) 3 (fun (_ : Unit) => Value.int .i64 (k : Int)) () X Y row e2 hg (fun r e => (hr r e).2)⟩, boxed_own (w.heap.size + 1 + 1 + 1 + 1 + 1 + 1 + 1) 3 (fun (_ : Unit) => Value.int .i64 (s.length : Int)) () X Y row e3 hg (fun r e => (hr r e).2)⟩, (ownFrom_below (β := Unit) (by omega) (by omega)) () X Y row e4 hg hr⟩)
    (fun c => OwnFrom.and (fun s X Y row hs hg hr => ⟨hs.1, fun hp => boxed_own (w.heap.size + 1 + 1 + 1) 4 (fun (_ : Unit) => Value.bool true) () X Y row (hs.2 hp) hg (fun r e => (hr r e).2)⟩) (ownFrom_below (Nat.le_refl _) (by omega)))
    ⟨0, ⟨⟨⟨Nat.zero_le _, rfl, hm.1⟩, X0⟩, N0⟩, Below.refl _ _⟩
    (fun t a' W => ∃ Bx, w.heap.size + 1 + 1 + 1 + 1 + 1 + 1 + 1 < Bx ∧ Two W Bx (x + dX t.val) (y + dY t.val) ∧ a' = { tmps := #[.agg #[.int .i64 x, .int .i64 y], .agg #[.int .i64 p, .int .i64 q, .int .i64 a, .int .i64 b], .int .u8 m, .pointer (some ⟨w.heap.size, 0, none⟩), .pointer (some ⟨w.heap.size + 1, 0, none⟩), .pointer (some ⟨w.heap.size + 1 + 1, 0, none⟩), .pointer (some ⟨w.heap.size + 1 + 1 + 1, 0, none⟩), .func (.func 45) #[] #[.pointer (some ⟨w.heap.size + 1 + 1 + 1 + 1, 0, none⟩), .pointer (some ⟨w.heap.size + 1 + 1 + 1 + 1 + 1, 0, none⟩)], .pointer (some ⟨w.heap.size + 1 + 1 + 1 + 1 + 1 + 1, 0, none⟩), .pointer (some ⟨w.heap.size + 1 + 1 + 1 + 1 + 1 + 1 + 1, 0, none⟩), .int .i64 (t.val : Int), .pointer (some ⟨Bx, 0, none⟩), undef, undef, undef, undef, undef, undef, .agg #[.int .i64 x, .int .i64 y], .agg #[.int .i64 p, .int .i64 q, .int .i64 a, .int .i64 b], .func (.func 45) #[] #[.pointer (some ⟨w.heap.size + 1 + 1 + 1 + 1, 0, none⟩), .pointer (some ⟨w.heap.size + 1 + 1 + 1 + 1 + 1, 0, none⟩)], .func (.func 45) #[] #[.pointer (some ⟨w.heap.size + 1 + 1 + 1 + 1, 0, none⟩), .pointer (some ⟨w.heap.size + 1 + 1 + 1 + 1 + 1, 0, none⟩)], .bool false, .func (.func 45) #[] #[.pointer (some ⟨w.heap.size + 1 + 1 + 1 + 1, 0, none⟩), .pointer (some ⟨w.heap.size + 1 + 1 + 1 + 1 + 1, 0, none⟩)], .int .i64 (t.val : Int), .agg #[.int .i64 (x + dX t.val), .int .i64 (y + dY t.val)], undef, undef, undef, undef, undef, undef, undef, undef, undef, undef, undef, undef, undef, undef, undef, undef, undef, undef, undef, undef, undef, undef, undef, undef, undef, undef, undef, undef, undef, undef, undef, undef, undef, undef, undef, undef, undef, undef, undef, undef, undef, undef, undef, undef, undef, undef, undef, undef, undef, undef, undef, undef, undef, undef, undef, undef, undef, undef, undef, undef, undef, undef, undef, undef, undef, undef, undef], defers := [] })
    (fun t a' _ X Y row hs hg hr => by obtain ⟨Bx, e1, e2, e3⟩ := hs; exact ⟨Bx, e1, e2.own hg (fun r e => (hr r e).2), e3⟩)
    ?assign ?body ?done ?stop
  case assign =>
    rintro l pre t W K ⟨k, ⟨⟨hp, bX⟩, bN⟩, hB⟩ hK
    gi_wp2
    exact hK _ _ ((KeepsOthers.alloc _ _).from _) ((Below.refl _ W).alloc (by have := hB.size; omega) _) ⟨k, ⟨⟨hp, bX.alloc _⟩, bN.alloc _⟩, hB.alloc (by have := hB.size; omega) _⟩ ⟨W.heap.size, bN.lt, Two.newAt rfl, rfl⟩
  case body =>
    rintro l pre t a' W hl ⟨r, hr⟩ ⟨k, ⟨⟨⟨hk8, rfl, hpm⟩, bX⟩, bN⟩, hB⟩ ⟨Bx, hBx, bT, rfl⟩ hlt
    have hsW := hB.size
    have HBW : Below w.heap.size w W := HB0.trans (hB.mono (by omega))
    have ht8 := t.isLt
    have S0 : St w.heap.size (roundN x y p q a b k).length W k W := ⟨⟨bX, bN⟩, keeps_below (Below.refl _ _), Below.refl _ _⟩
    have hBx8 : w.heap.size + 1 + 1 + 1 + 1 + 1 + 1 + 1 < Bx := hBx
    gi_wp2_with fail
    gi_loopw [] (fun wr => ∃ j : Nat, ((k ≤ j ∧ (j ≤ k ∨ j ≤ t.val)) ∧ restN x y p q a b j = restN x y p q a b k ∧ roundN x y p q a b j = roundN x y p q a b k) ∧ St w.heap.size (roundN x y p q a b k).length W j wr ∧ Two wr Bx (x + dX t.val) (y + dY t.val)) (fun wr => t.val - numAt (w.heap.size + 1 + 1 + 1 + 1 + 1 + 1) wr)
    case atStart => exact ⟨k, ⟨⟨Nat.le_refl _, .inl (Nat.le_refl _)⟩, rfl, rfl⟩, S0, bT⟩
    case round =>
      obtain ⟨j, ⟨⟨hkj, hjt⟩, hrest, hround⟩, Sr, Tr⟩ := hrel
      have Cr := T0.upto (hB.trans Sr.2.2) (by omega)
      have Fr := F0.upto (hB.trans Sr.2.2) (by omega)
      have Mr := boxed_upto M0 (hB.trans Sr.2.2) (by omega)
      have Rr := boxed_upto R0 (hB.trans Sr.2.2) (by omega)
      have hwr : w.heap.size + 8 ≤ wr.heap.size := Nat.le_trans (Nat.le_trans (Nat.le_of_eq hsz.symm) hsW) Sr.2.2.size
      have HBr : Below w.heap.size w wr := HBW.trans (Sr.2.2.mono (by omega))
      obtain ⟨⟨x0, x1⟩, _, zx⟩ := id Cr
      have nX := Sr.1.1.cell
      have fX := Sr.1.1.frozen
      by_cases hlt2 : j < t.val
      · have hj8 : j < 8 := by omega
        gi_wp2_with fail
        refine ⟨trivial, ?_⟩
        refine (CallsIn.inRound l (callsIn_wide.2 (refstep_any x y j _))).mono ?_
        rintro e w1 ⟨rfl, hb1⟩
        have S1 := Sr.kept hb1
        have T1 := Tr.kept hb1
        cases hs : sB x y j
        · rw [sX_no hs, sY_no hs]
          have S2 := S1.kept (box1 w1 (.cells #[.int .i64 0, .int .i64 0] 23))
          have T2 := T1.kept (box1 w1 (.cells #[.int .i64 0, .int .i64 0] 23))
          have nX2 := S2.1.1.cell
          have fX2 := S2.1.1.frozen
          gi_wp2_with fail
          refine ⟨trivial, ?_⟩
          gi_wp2_with fail
          go_roundw
          case rel => exact ⟨j + 1, ⟨⟨by omega, .inr (by omega)⟩, (restN_no hj8 (inn_no hs)).symm.trans hrest, (roundN_no hj8 (inn_no hs)).trans hround⟩, S2.next, two_other T2 (by omega) _⟩
          case measure => rw [numAt_is Sr.1.1, numAt_is S2.next.1.1]; omega
        · rw [sX_yes hs, sY_yes hs, Int.toNat_natCast]
          have S2 := S1.kept (box1 w1 (.cells #[.int .i64 (x + dX j), .int .i64 (y + dY j)] 23))
          have T2 := T1.kept (box1 w1 (.cells #[.int .i64 (x + dX j), .int .i64 (y + dY j)] 23))
          have F2 := Fr.kept (bt hb1 (box1 w1 (.cells #[.int .i64 (x + dX j), .int .i64 (y + dY j)] 23)))
          obtain ⟨⟨f0, f1, f2, f3⟩, _, zf⟩ := id F2
          gi_wp2_with fail
          refine ⟨trivial, ?_⟩
          cases hh : has p q a b (x + dX j) (y + dY j)
          · refine (CallsIn.inRound l (callsIn_wide.2 (refhas_is _ hh))).mono ?_
            rintro e w2 ⟨rfl, hb2⟩
            have hi : inn x y p q a b j = false := by rw [inn_is hs hh]; rfl
            have S3 := S2.kept hb2
            have T3 := T2.kept hb2
            have nX2 := S3.1.1.cell
            have fX2 := S3.1.1.frozen
            gi_wp2_with fail
            go_roundw
            case rel => exact ⟨j + 1, ⟨⟨by omega, .inr (by omega)⟩, (restN_no hj8 hi).symm.trans hrest, (roundN_no hj8 hi).trans hround⟩, S3.next, two_other T3 (by omega) _⟩
            case measure => rw [numAt_is Sr.1.1, numAt_is S3.next.1.1]; omega
          · refine (CallsIn.inRound l (callsIn_wide.2 (refhas_is _ hh))).mono ?_
            rintro e w2 ⟨rfl, hb2⟩
            have hi : inn x y p q a b j = true := by rw [inn_is hs hh]; rfl
            have hb3 := bt (bt hb1 (box1 _ _)) hb2
            have R3 := boxed_upto Rr hb3 Rr.lt
            have cR := R3.cell
            have fR := R3.frozen
            gi_wp2_with fail
            exact ⟨((Sr.2.1.trans (keeps_below hb3)).trans (KeepsOthers.setCell _ _ _)).from _, ⟨rfl, fun hp' => absurd (next_is hp') (by rw [← hrest, restN_yes hj8 hi]; rintro ⟨l', e⟩; have := (List.cons.inj e).1; rw [← this] at hlt2; simp at hlt2)⟩, (bt HBr hb3).setCell (p := ⟨w.heap.size + 1 + 1 + 1, 0, none⟩) (by simp; omega) _⟩
      · by_cases hjt2 : j = t.val
        · subst hjt2
          cases hs : sB x y t.val
          · gi_wp2_with fail
            refine ⟨trivial, ?_⟩
            refine (CallsIn.inRound l (callsIn_wide.2 (refstep_any x y t.val _))).mono ?_
            rintro e w1 ⟨rfl, hb1⟩
            rw [hs, sX_no hs, sY_no hs]
            have S2 := Sr.kept (bt hb1 (box1 w1 (.cells #[.int .i64 0, .int .i64 0] 23)))
            have nX2 := S2.1.1.cell
            have nX1 := (Sr.kept hb1).1.1.cell
            have hb3 := bt hb1 (box1 w1 (.cells #[.int .i64 0, .int .i64 0] 23))
            have R3 := boxed_upto Rr hb3 Rr.lt
            have cR := R3.cell
            have fR := R3.frozen
            gi_wp2_with fail
            refine ⟨trivial, ?_⟩
            gi_wp2_with fail
            exact ⟨((Sr.2.1.trans (keeps_below hb3)).trans (KeepsOthers.setCell _ _ _)).from _, ⟨rfl, fun hp' => absurd (next_is hp') (by rintro ⟨l', e⟩; have := restN_mem (show t ∈ restN x y p q a b k by rw [e]; simp); rw [inn_no hs] at this; exact absurd this.2 (by simp))⟩, (bt HBr hb3).setCell (p := ⟨w.heap.size + 1 + 1 + 1, 0, none⟩) (by simp; omega) _⟩
          · gi_wp2_with fail
            refine ⟨trivial, ?_⟩
            refine (CallsIn.inRound l (callsIn_wide.2 (refstep_any x y t.val _))).mono ?_
            rintro e w1 ⟨rfl, hb1⟩
            rw [hs, sX_yes hs, sY_yes hs, Int.toNat_natCast]
            have hb2 := bt hb1 (box1 w1 (.cells #[.int .i64 (x + dX t.val), .int .i64 (y + dY t.val)] 23))
            have S2 := Sr.kept hb2
            have nX2 := S2.1.1.cell
            have nX1 := (Sr.kept hb1).1.1.cell
            have T2 := Tr.kept hb2
            have F2 := Fr.kept hb2
            obtain ⟨⟨t0, t1⟩, _, zt⟩ := id T2
            obtain ⟨⟨f0, f1, f2, f3⟩, _, zf⟩ := id F2
            gi_wp2_with fail
            refine ⟨trivial, ?_⟩
            cases hh : has p q a b (x + dX t.val) (y + dY t.val)
            · refine (CallsIn.inRound l (callsIn_wide.2 (refhas_is _ hh))).mono ?_
              rintro e w2 ⟨rfl, hb4⟩
              have hb3 := bt hb2 hb4
              have R3 := boxed_upto Rr hb3 Rr.lt
              have cR := R3.cell
              have fR := R3.frozen
              gi_wp2_with fail
              exact ⟨((Sr.2.1.trans (keeps_below hb3)).trans (KeepsOthers.setCell _ _ _)).from _, ⟨rfl, fun hp' => absurd (next_is hp') (by rintro ⟨l', e⟩; have := restN_mem (show t ∈ restN x y p q a b k by rw [e]; simp); rw [inn_is hs hh] at this; exact absurd this.2 (by simp))⟩, (bt HBr hb3).setCell (p := ⟨w.heap.size + 1 + 1 + 1, 0, none⟩) (by simp; omega) _⟩
            · refine (CallsIn.inRound l (callsIn_wide.2 (refhas_is _ hh))).mono ?_
              rintro e w2 ⟨rfl, hb4⟩
              have hb3 := bt hb2 hb4
              have hi : inn x y p q a b t.val = true := by rw [inn_is hs hh]; rfl
              have hnext : roundN x y p q a b (t.val + 1) = roundN x y p q a b k ++ [t] := by rw [roundN_yes ht8 hi, hround]
              have S3 := Sr.kept hb3
              have cX := S3.1.1.cell
              have fX3 := S3.1.1.frozen
              have S4 := S3.next
              have cN := S4.1.2.cell
              have fN := S4.1.2.frozen
              have S5 := S4.count
              have cN5 := S5.1.2.cell
              have M3 := ((boxed_upto Mr hb3 Mr.lt).other (show w.heap.size + 1 + 1 ≠ w.heap.size + 1 + 1 + 1 + 1 + 1 + 1 by omega) (.int .i64 ((t.val : Int) + 1))).other (show w.heap.size + 1 + 1 ≠ w.heap.size + 1 + 1 + 1 + 1 + 1 + 1 + 1 by omega) (.int .i64 (((roundN x y p q a b k).length : Int) + 1))
              have cM := M3.cell
              have len1 : ((roundN x y p q a b k).length : Int) ≤ 8 := by omega
              have hbw := bt HBr hb3
              clear nX nX1 nX2 t0 t1 f0 f1 f2 f3 x0 x1
              by_cases h4 : m < ((roundN x y p q a b k).length : Int) + 1
              · have HB5 := (hbw.setCell (p := ⟨w.heap.size + 1 + 1 + 1 + 1 + 1 + 1, 0, none⟩) (by simp; omega) (.int .i64 ((t.val : Int) + 1))).setCell (p := ⟨w.heap.size + 1 + 1 + 1 + 1 + 1 + 1 + 1, 0, none⟩) (by simp; omega) (.int .i64 (((roundN x y p q a b k).length : Int) + 1))
                have R5 := ((boxed_upto Rr hb3 Rr.lt).other (show w.heap.size + 1 + 1 + 1 ≠ w.heap.size + 1 + 1 + 1 + 1 + 1 + 1 by omega) (.int .i64 ((t.val : Int) + 1))).other (show w.heap.size + 1 + 1 + 1 ≠ w.heap.size + 1 + 1 + 1 + 1 + 1 + 1 + 1 by omega) (.int .i64 (((roundN x y p q a b k).length : Int) + 1))
                gi_wp2_with fail
                refine ⟨trivial, ?_⟩
                refine (CallsIn.inRound l (callsIn_wide.2 (awake_any _ (ho.kept HB5)))).mono ?_
                rintro e v ⟨rfl, hbv⟩
                have R6 := boxed_upto R5 hbv R5.lt
                have cR6 := R6.cell
                have fR6 := R6.frozen
                gi_wp2_with fail
                exact ⟨((S5.2.1.trans (keeps_below hbv)).trans (KeepsOthers.setCell _ _ _)).from _, ⟨rfl, fun _ => R6.set _⟩, (bt HB5 hbv).setCell (p := ⟨w.heap.size + 1 + 1 + 1, 0, none⟩) (by simp; omega) _⟩
              · gi_wp2_with fail
                exact ⟨S5.2.1.from _, S5.2.2, ⟨t.val + 1, ⟨⟨⟨by omega, hnext.symm, by simp; omega⟩, S5.1.1⟩, by simpa using S5.1.2⟩, hB.trans S5.2.2⟩⟩
        · gi_wp2_with fail
          refine ⟨trivial, ?_⟩
          refine (CallsIn.inRound l (callsIn_wide.2 (refstep_any x y t.val _))).mono ?_
          rintro e w1 ⟨rfl, hb1⟩
          have hb3 := bt hb1 (box1 w1 (.cells #[.int .i64 (sX x y t.val), .int .i64 (sY x y t.val)] 23))
          have S2 := Sr.kept hb3
          have nX2 := S2.1.1.cell
          have nX1 := (Sr.kept hb1).1.1.cell
          have R3 := boxed_upto Rr hb3 Rr.lt
          have cR := R3.cell
          have fR := R3.frozen
          have hne : (((t.val : Nat) : Int) != (j : Int)) = true := by simp; omega
          gi_wp2_with fail
          refine ⟨trivial, ?_⟩
          gi_wp2_with fail
          exact ⟨((Sr.2.1.trans (keeps_below hb3)).trans (KeepsOthers.setCell _ _ _)).from _, ⟨rfl, fun hp' => absurd (next_is hp') (by rintro ⟨l', e⟩; have := restN_mem (show t ∈ restN x y p q a b k by rw [e]; simp); omega)⟩, (bt HBr hb3).setCell (p := ⟨w.heap.size + 1 + 1 + 1, 0, none⟩) (by simp; omega) _⟩
  case done =>
    rintro D xs W hD rfl ⟨k, ⟨⟨⟨hk8, hxs, hpm⟩, bX⟩, bN⟩, hB⟩ hK
    have hsW := hB.size
    have HBW : Below w.heap.size w W := HB0.trans (hB.mono (by omega))
    have S0 : St w.heap.size (roundN x y p q a b 8).length W k W := ⟨⟨bX, bN⟩, keeps_below (Below.refl _ _), Below.refl _ _⟩
    have hnone : restN x y p q a b k = [] := by
      have := roundN_split x y p q a b k
      rw [← hxs] at this
      exact (List.self_eq_append_right.1 this)
    gi_wp2_with fail
    gi_loopw [] (fun wr => ∃ j : Nat, (j ≤ 8 ∧ restN x y p q a b j = []) ∧ St w.heap.size (roundN x y p q a b 8).length W j wr) (fun wr => 8 - numAt (w.heap.size + 1 + 1 + 1 + 1 + 1 + 1) wr)
    case atStart => exact ⟨k, ⟨hk8, hnone⟩, S0⟩
    case round =>
      obtain ⟨j, ⟨hj, hrest⟩, Sr⟩ := hrel
      have Cr := T0.upto (hB.trans Sr.2.2) (by omega)
      have Fr := F0.upto (hB.trans Sr.2.2) (by omega)
      have Rr := boxed_upto R0 (hB.trans Sr.2.2) (by omega)
      have HBr : Below w.heap.size w wr := HBW.trans (Sr.2.2.mono (by omega))
      obtain ⟨⟨x0, x1⟩, _, zx⟩ := id Cr
      have nX := Sr.1.1.cell
      have fX := Sr.1.1.frozen
      by_cases hj8 : j < 8
      · have hi : inn x y p q a b j = false := by
          cases e : inn x y p q a b j
          · rfl
          · rw [restN_yes hj8 e] at hrest; exact absurd hrest (by simp)
        gi_wp2_with fail
        refine ⟨trivial, ?_⟩
        refine (callsIn_wide.2 (refstep_any x y j _)).mono ?_
        rintro e w1 ⟨rfl, hb1⟩
        have S1 := Sr.kept hb1
        cases hs : sB x y j
        · rw [sX_no hs, sY_no hs]
          have S2 := S1.kept (box1 w1 (.cells #[.int .i64 0, .int .i64 0] 23))
          have nX2 := S2.1.1.cell
          have fX2 := S2.1.1.frozen
          gi_wp2_with fail
          refine ⟨trivial, ?_⟩
          gi_wp2_with fail
          go_roundw
          case rel => exact ⟨j + 1, ⟨hj8, (restN_no hj8 hi).symm.trans hrest⟩, S2.next⟩
          case measure => rw [numAt_is Sr.1.1, numAt_is S2.next.1.1]; omega
        · rw [sX_yes hs, sY_yes hs, Int.toNat_natCast]
          have S2 := S1.kept (box1 w1 (.cells #[.int .i64 (x + dX j), .int .i64 (y + dY j)] 23))
          have F2 := Fr.kept (bt hb1 (box1 w1 (.cells #[.int .i64 (x + dX j), .int .i64 (y + dY j)] 23)))
          obtain ⟨⟨f0, f1, f2, f3⟩, _, zf⟩ := id F2
          have hh : has p q a b (x + dX j) (y + dY j) = false := by
            cases e : has p q a b (x + dX j) (y + dY j)
            · rfl
            · rw [inn_is hs e] at hi; exact absurd hi (by simp)
          gi_wp2_with fail
          refine ⟨trivial, ?_⟩
          refine (callsIn_wide.2 (refhas_is _ hh)).mono ?_
          rintro e w2 ⟨rfl, hb2⟩
          have S3 := S2.kept hb2
          have nX2 := S3.1.1.cell
          have fX2 := S3.1.1.frozen
          gi_wp2_with fail
          go_roundw
          case rel => exact ⟨j + 1, ⟨hj8, (restN_no hj8 hi).symm.trans hrest⟩, S3.next⟩
          case measure => rw [numAt_is Sr.1.1, numAt_is S3.next.1.1]; omega
      · gi_wp2_with fail
        refine ⟨trivial, ?_⟩
        refine (callsIn_wide.2 (awake_any _ (ho.kept HBr))).mono ?_
        rintro e w2 ⟨rfl, hb2⟩
        have bR2 := boxed_upto Rr hb2 Rr.lt
        have cR2 := bR2.cell
        have fR2 := bR2.frozen
        have hK2 := (Sr.2.1.trans (keeps_below hb2)).same D _ hK rfl
        have HB2 := bt HBr hb2
        gi_wp2_with fail
        have hK3 := (KeepsOthers.setCell _ ⟨w.heap.size + 1 + 1 + 1, 0, none⟩ (.bool true)).same D _ hK2 rfl
        refine ⟨by simp, .inl ⟨_, _, rfl, run_takeDeferred hK3, ?_⟩⟩
        have hc5 := cell_kept (bR2.set (.bool true)).cell (grownBy_putObj' _ D (.deferred none)) (fun r e => by cases e; exact ⟨_, hK3, rfl⟩)
        refine ⟨.bool true, ?_, rfl, (HB2.setCell (p := ⟨w.heap.size + 1 + 1 + 1, 0, none⟩) (by simp; omega) _).trans (belowK_b (w := w) (Nat.le_refl _) _ D _ _ (by omega) hK3 rfl rfl)⟩
        simp [results, Tryd.f4, go_sem, hc5]
  case stop =>
    rintro D c pre W hD hpre ⟨⟨rfl, hR⟩, hB⟩ hK
    have bR := hR hpre
    have cR := bR.cell
    gi_wp2
    refine ⟨by simp, .inl ⟨_, _, rfl, run_takeDeferred hK, ?_⟩⟩
    have hc5 := cell_kept bR.cell (grownBy_putObj' _ D (.deferred none)) (fun r e => by cases e; exact ⟨_, hK, rfl⟩)
    refine ⟨.bool true, ?_, rfl, hB.trans (belowK_b (w := w) (Nat.le_refl _) W D _ _ (by omega) hK rfl rfl)⟩
    simp [results, Tryd.f4, go_sem, hc5]
end Go.Proofs.YtebapnoaegdejaaDoor
