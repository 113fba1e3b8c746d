/-
  phalanxlaw11.ClusterRects, walked.
-/
import Derived.Test.YtpikfplmghofbaaDoorRPure
import Derived.Test.YtpikfplmghofbaaDoorAw
import Derived.Test.YtpikfplmghofbaaDoorBoth
import Derived.Test.YtpikfplmghofbaaDoorRStep
set_option linter.unusedSimpArgs false
namespace Go.Proofs.YtpikfplmghofbaaDoor
open Go.RowKit Go.Shelf
set_option linter.unusedVariables false
attribute [local go_sem] Oper.semAt_some
/-- The last one handed out is none of a cluster's neighbours, or comes out of order. -/
def BadD (W H x y : Int) (l : List (Fin 8)) : Prop := ∃ (p0 : List (Fin 8)) (t : Fin 8), l = p0 ++ [t] ∧ ¬ (rB W H x y = true ∧ t.val < 4 ∧ sB x y (t.val : Int) = true ∧ rB W H (x + dX t.val) (y + dY t.val) = true ∧ lastD p0 < (t.val : Int))
theorem rects_no (W H : Int) (tv bv : Value) (tl : List Nat) (L : List Bd) (x y : Int) (w : World) (hv : TlR w tv tl) (hb : ∀ n ∈ tl, n < 256) (hl : BdR w bv L) (hc : chkC W H tl L = 1) :
    Calls Tryd.prog 3 #[mp W H tv bv, cel x y] w fun e w' => e = .returned (.bool true) ∧ Below w.heap.size w w' := by
  obtain ⟨X, hX⟩ : ∃ X, ((w.alloc (.cells #[.int .i64 W, .int .i64 H, tv, bv] 25)).alloc (.cells #[.int .i64 x, .int .i64 y] 27)).alloc (.cells #[.bool false] 4) = X := ⟨_, rfl⟩
  have B0 : Below w.heap.size w X := by rw [← hX]; exact bt (box2 _ _ _) (box1 _ _)
  have MX : MB X w.heap.size W H tv bv := by rw [← hX]; exact (MB.new w W H tv bv).kept (box2 _ _ _)
  have R0 : Boxed X (w.heap.size + 2) 4 (.bool false) := by rw [← hX]; have := Boxed.new ((w.alloc (.cells #[.int .i64 W, .int .i64 H, tv, bv] 25)).alloc (.cells #[.int .i64 x, .int .i64 y] 27)) 4 (.bool false); simpa using this
  have HVL : Hid (∀ wx, Below w.heap.size w wx → TlR wx tv tl ∧ BdR wx bv L) := hide fun wx hx => ⟨hv.kept hx, hl.kept hx⟩
  have HBt := hide hb
  have hvf := hv
  have hlf := hl
  obtain ⟨a1, cap1, rfl, -⟩ := hvf
  obtain ⟨a2, cap2, rfl, -⟩ := hlf
  clear hv hl hb
  refine (callsIn_wide (n := 10)).1 ?_
  refine callsIn_of_wp_marks Tryd.func3 rfl trivial ?_ rfl
  simp only [Tryd.ntmps3, List.size_toArray, List.length_cons, List.length_nil, Nat.reduceAdd, Nat.reduceSub, Array.replicate_succ, Array.replicate_zero, List.push_toArray, List.append_toArray, List.nil_append, List.cons_append]
  gi_wp2_with fail
  clear hX
  refine ⟨trivial, ?_⟩
  refine (callsIn_wide.2 (aw_is X)).mono ?_
  rintro e w1 ⟨rfl, hb1⟩
  have M1 := MX.kept hb1
  have HB1 := hide (bt B0 hb1)
  have R1 := boxed_upto R0 hb1 R0.lt
  obtain ⟨m0, m1, m2, m3⟩ := M1.c
  have HBo := hide (both_no W H _ _ tl L w1 (HVL.out _ HB1.out).1 HBt.out (HVL.out _ HB1.out).2 hc)
  clear hc B0 MX R0 hb1
  gi_wp2_with fail
  refine ⟨trivial, ?_⟩
  refine (callsIn_wide.2 HBo.out).mono ?_
  rintro e w2 ⟨rfl, hb2⟩
  have HB2 := hide (bt HB1.out hb2)
  have R2 := boxed_upto R1 hb2 R1.lt
  clear m0 m1 m2 m3 M1 R1 hb2 HBo HVL HBt HB1
  gi_wp2_with fail
  refine ⟨trivial, ?_⟩
  refine (callsIn_wide.2 (aw_is _)).mono ?_
  rintro e w4 ⟨rfl, hb4⟩
  have R4 : Boxed w4 (w.heap.size + 2) 4 (.bool false) := boxed_upto (R2.alloc _) hb4 (R2.alloc _).lt
  have HB4 := hide (bt HB2.out (bt (box1 _ _) hb4))
  clear hb4 R2 HB2
  have c4 := R4.cell
  have f4 := R4.frozen
  gi_wp2_with fail
  exact ⟨.bool true, by simp [results, Tryd.f3, go_sem, *], rfl, HB4.out.setCell (p := ⟨w.heap.size + 2, 0, none⟩) (by simp) _⟩
set_option maxRecDepth 100000 in
set_option maxHeartbeats 4000000 in
theorem rects_yes (W H : Int) (tv bv : Value) (tl : List Nat) (L : List Bd) (x y : Int) (w : World) (hv : TlR w tv tl) (hb : ∀ n ∈ tl, n < 256) (hl : BdR w bv L) (ho : Offs w) (hc : chkC W H tl L = 0) :
    Calls Tryd.prog 3 #[mp W H tv bv, cel x y] w fun e w' => e = .returned (.bool true) ∧ Below w.heap.size w w' := by
  have hm := (chkC_zero hc).1
  have hWH : (1 ≤ W ∧ W ≤ 128) ∧ 1 ≤ H ∧ H ≤ 128 := by
    simp only [mt, gs, Bool.and_eq_true, decide_eq_true_eq] at hm
    omega
  clear hm
  obtain ⟨X, hX⟩ : ∃ X, ((w.alloc (.cells #[.int .i64 W, .int .i64 H, tv, bv] 25)).alloc (.cells #[.int .i64 x, .int .i64 y] 27)).alloc (.cells #[.bool false] 4) = X := ⟨_, rfl⟩
  have B0 : Below w.heap.size w X := by rw [← hX]; exact bt (box2 _ _ _) (box1 _ _)
  have MX : MB X w.heap.size W H tv bv := by rw [← hX]; exact (MB.new w W H tv bv).kept (box2 _ _ _)
  have TX : Two X (w.heap.size + 1) x y := by rw [← hX]; exact (Two.newAt (by simp)).alloc
  have R0 : Boxed X (w.heap.size + 2) 4 (.bool false) := by rw [← hX]; have := Boxed.new ((w.alloc (.cells #[.int .i64 W, .int .i64 H, tv, bv] 25)).alloc (.cells #[.int .i64 x, .int .i64 y] 27)) 4 (.bool false); simpa using this
  have HVL : Hid (∀ wx, Below w.heap.size w wx → TlR wx tv tl ∧ BdR wx bv L) := hide fun wx hx => ⟨hv.kept hx, hl.kept hx⟩
  have HBt := hide hb
  have HO := hide ho
  have hvf := hv
  have hlf := hl
  obtain ⟨a1, cap1, rfl, -⟩ := hvf
  obtain ⟨a2, cap2, rfl, -⟩ := hlf
  clear hv hl hb ho
  refine (callsIn_wide (n := 10)).1 ?_
  refine callsIn_of_wp_marks Tryd.func3 rfl trivial ?_ rfl
  simp only [Tryd.ntmps3, List.size_toArray, List.length_cons, List.length_nil, Nat.reduceAdd, Nat.reduceSub, Array.replicate_succ, Array.replicate_zero, List.push_toArray, List.append_toArray, List.nil_append, List.cons_append]
  gi_wp2_with fail
  clear hX
  refine ⟨trivial, ?_⟩
  refine (callsIn_wide.2 (aw_is X)).mono ?_
  rintro e w1 ⟨rfl, hb1⟩
  have M1 := MX.kept hb1
  have T1 := TX.kept hb1
  have HB1 := hide (bt B0 hb1)
  have R1 := boxed_upto R0 hb1 R0.lt
  obtain ⟨m0, m1, m2, m3⟩ := M1.c
  have HBo := hide (both_ok W H _ _ tl L w1 (HVL.out _ HB1.out).1 HBt.out (HVL.out _ HB1.out).2 hc)
  clear hc B0 MX TX R0 hb1
  gi_wp2_with fail
  refine ⟨trivial, ?_⟩
  refine (callsIn_wide.2 HBo.out).mono ?_
  rintro e w2 ⟨p, rp, rfl, hWn, -, hb2⟩
  obtain ⟨w3, h3⟩ : ∃ w3, w2.alloc (.cells #[ptr p] 29) = w3 := ⟨_, rfl⟩
  have B3 : Below w1.heap.size w1 w3 := bt hb2 (by rw [← h3]; exact box1 _ _)
  have P3 : Boxed w3 w2.heap.size 29 (ptr p) := by rw [← h3]; exact Boxed.new w2 29 _
  have W3 := hWn.1.kept (show Below w2.heap.size w2 w3 by rw [← h3]; exact box1 _ _)
  have R3 := boxed_upto R1 B3 R1.lt
  have M3 := M1.kept B3
  have T3 := T1.kept B3
  have HB3 := hide (bt HB1.out B3)
  have c5 := P3.cell
  clear m0 m1 m2 m3 M1 T1 R1 hb2 HBo HVL HBt HB1 B3 hWn
  obtain ⟨⟨t0, t1⟩, -, -⟩ := id T3
  obtain ⟨s1, s2, s3, s4, hsv⟩ := rV_form W H x y
  have HR1 := hide (rect_any x y W3)
  have HR2 : Hid (∀ wx, Calls Tryd.prog 7 #[.int .i64 W, .int .i64 H, cel x y] wx fun e w' => e = .returned (.tuple #[rV W H x y, .bool (rB W H x y)]) ∧ Below wx.heap.size wx w') := hide fun wx => refrect_any W H x y hWH.1 hWH.2
  rw [hsv] at HR1 HR2
  clear hsv
  obtain ⟨rb, hrb⟩ : ∃ rb, rB W H x y = rb := ⟨_, rfl⟩
  have HRB := hide hrb
  rw [hrb] at HR1 HR2
  clear hrb
  have HWH := hide hWH
  clear hWH
  gi_wp2_with fail
  clear h3
  refine ⟨trivial, ?_⟩
  refine (callsIn_wide.2 HR1.out).mono ?_
  rintro e w4 ⟨rfl, hb4⟩
  obtain ⟨w5, h5⟩ : ∃ w5, w4.alloc (.cells #[.int .i64 s1, .int .i64 s2, .int .i64 s3, .int .i64 s4] 34) = w5 := ⟨_, rfl⟩
  have B5 : Below w3.heap.size w3 w5 := bt hb4 (by rw [← h5]; exact box1 _ _)
  have F5 : Four w5 w4.heap.size s1 s2 s3 s4 := by rw [← h5]; exact Four.new _ _ _ _ _ _
  have W5 := W3.kept B5
  have P5 := boxed_upto P3 B5 P3.lt
  have R5 := boxed_upto R3 B5 R3.lt
  have M5 := M3.kept B5
  have T5 := T3.kept B5
  have HB5 := hide (bt HB3.out B5)
  clear t0 t1 c5 B5 hb4 HR1 W3 P3 R3 M3 T3 HB3
  obtain ⟨⟨t0, t1⟩, -, -⟩ := id T5
  obtain ⟨m0, m1, -, -⟩ := M5.c
  gi_wp2_with fail
  clear h5
  refine ⟨trivial, ?_⟩
  refine (callsIn_wide.2 (HR2.out w5)).mono ?_
  rintro e w6 ⟨rfl, hb6⟩
  obtain ⟨w7, h7⟩ : ∃ w7, (w6.alloc (.cells #[.int .i64 s1, .int .i64 s2, .int .i64 s3, .int .i64 s4] 34)).alloc (.cells #[.bool rb] 4) = w7 := ⟨_, rfl⟩
  have B7 : Below w5.heap.size w5 w7 := bt hb6 (by rw [← h7]; exact box2 _ _ _)
  have F7 : Four w7 w6.heap.size s1 s2 s3 s4 := by rw [← h7]; exact (Four.new _ _ _ _ _ _).kept (box1 _ _)
  have A7 : Boxed w7 (w6.heap.size + 1) 4 (.bool rb) := by rw [← h7]; have := Boxed.new (w6.alloc (.cells #[.int .i64 s1, .int .i64 s2, .int .i64 s3, .int .i64 s4] 34)) 4 (.bool rb); simpa using this
  have z7 : w7.heap.size = w6.heap.size + 2 := by rw [← h7]; simp
  have G7 := F5.kept B7
  have W7 := W5.kept B7
  have P7 := boxed_upto P5 B7 P5.lt
  have R7 := boxed_upto R5 B7 R5.lt
  have M7 := M5.kept B7
  have T7 := T5.kept B7
  have HB7 := hide (bt HB5.out B7)
  clear t0 t1 m0 m1 B7 hb6 W5 P5 R5 M5 T5 HB5 F5
  obtain ⟨⟨t0, t1⟩, -, -⟩ := id T7
  obtain ⟨⟨f0, f1, f2, f3⟩, -, -⟩ := id F7
  obtain ⟨⟨g0, g1, g2, g3⟩, -, -⟩ := id G7
  have cA := A7.cell
  have cP := P7.cell
  obtain ⟨w8, h8⟩ : ∃ w8, (w7.alloc (.cells #[.int .i64 0] 3)).alloc (.cells #[.int .i64 (-1), .int .i64 (-1)] 27) = w8 := ⟨_, rfl⟩
  have B8 : Below w7.heap.size w7 w8 := by rw [← h8]; exact box2 _ _ _
  have N8 : Boxed w8 w7.heap.size 3 (.int .i64 0) := by rw [← h8]; exact (Boxed.new w7 3 _).alloc _
  have L8 : Two w8 (w7.heap.size + 1) (-1) (-1) := by rw [← h8]; exact Two.newAt (by simp)
  have z8 : w8.heap.size = w7.heap.size + 2 := by rw [← h8]; simp
  have P8 := boxed_upto P7 B8 P7.lt
  have c8 := P8.cell
  have n8c := N8.cell
  have n8f := N8.frozen
  obtain ⟨⟨l80, l81⟩, ⟨l82, l83⟩, -⟩ := id L8
  gi_wp2_with fail
  refine ⟨trivial, ?_⟩
  refine (callsIn_wide.2 (call_any p w8)).mono ?_
  rintro e w9 ⟨rfl, h9⟩
  have B9 : Below w8.heap.size w8 w9 := by rw [h9]; exact box1 _ _
  have P9 : Boxed w9 w8.heap.size 29 (ptr p) := by rw [h9]; exact Boxed.new w8 29 _
  have z9 : w9.heap.size = w8.heap.size + 1 := by rw [h9]; simp
  clear h9
  gi_wp2_with fail
  have W9 := W7.kept (bt B8 B9)
  have B79 := bt B8 B9
  have N9 := boxed_upto N8 B9 N8.lt
  have L9 := L8.kept B9
  rw [z7] at N9 L9 z8
  rw [z8] at P9 z9
  have hsz := HB7.out.size
  have hRl := R7.lt
  clear t0 t1 f0 f1 f2 f3 g0 g1 g2 g3 cA cP c8 n8c n8f l80 l81 l82 l83 h7 h8 N8 L8 B8 B9 F7 G7 P8
  refine range_nest (n := 10) (by omega) (gf := 21) (lb := #[ptr (w6.heap.size + 2 + 2)]) rfl (enters_of Tryd.func21 (by kernel_rfl) rfl)
    (call_seq (10 - 1) p (w6.heap.size + 2 + 2) W H tl (whoF L) w9 (by omega) P9 W9) (fun _ _ => trivial) (fun _ _ _ _ _ _ _ _ => trivial) (Below.refl _ _) (fun _ => rfl)
    (fun pre X => ((Boxed X (w6.heap.size + 2) 3 (.int .i64 (arK W H pre)) ∧ Two X (w6.heap.size + 2 + 1) (lastK pre).1 (lastK pre).2) ∧ (w9.heap.size ≤ X.heap.size ∧ 0 ≤ arK W H pre ∧ arK W H pre ≤ 64 * ((pre.length : Nat) : Int))) ∧ Below w7.heap.size w7 X)
    (fun pre X => ∃ (p0 : List Cel) (q : Cel), pre = p0 ++ [q] ∧ ¬ (rB W H q.1.1 q.1.2 = true ∧ lessK (lastK p0) q.1 = true))
    (OwnFrom.and (OwnFrom.and (OwnFrom.and (Own.from (boxed_own _ _ _) _) (fun s X Y row hs hg hr => hs.own hg (fun r e => (hr r e).2))) (OwnFrom.and (ownFrom_size _ _) (fun s X Y row hs hg hr => hs))) (ownFrom_below (Nat.le_refl _) (by omega)))
    (fun s X Y row hs hg hr => hs)
    ⟨⟨⟨N9, L9⟩, Nat.le_refl _, by rw [arK_nil]; exact Int.le_refl _, by rw [arK_nil]; exact Int.le_refl _⟩, B79⟩
    (fun q a' X => ∃ Bx, w9.heap.size ≤ Bx ∧ Two X Bx q.1.1 q.1.2 ∧ a' = { tmps := #[mp W H (Value.slice a1 tl.length cap1) (Value.slice a2 L.length cap2), cel x y, Value.pointer (some { block := w.heap.size, off := 0 }), Value.pointer (some { block := w.heap.size + 1, off := 0 }), Value.pointer (some { block := w.heap.size + 1 + 1, off := 0 }), Value.pointer (some { block := w2.heap.size, off := 0 }), ptr rp, Value.bool true, Value.pointer (some { block := w4.heap.size, off := 0 }), Value.bool rb, Value.pointer (some { block := w6.heap.size, off := 0 }), Value.pointer (some { block := w6.heap.size + 1, off := 0 }), Value.pointer (some { block := w6.heap.size + 2, off := 0 }), Value.pointer (some { block := w6.heap.size + 2 + 1, off := 0 }), ptr Bx, undef, undef, undef, undef, undef, undef, undef, undef, undef, Value.bool true, Value.bool false, Value.tuple #[ptr p, ptr rp, Value.bool true], Value.agg #[Value.int IntKind.i64 W, Value.int IntKind.i64 H, Value.slice a1 tl.length cap1, Value.slice a2 L.length cap2], Value.tuple #[ptr p, ptr rp, Value.bool true], ptr p, ptr rp, Value.bool true, Value.bool true, Value.bool false, undef, Value.tuple #[rct s1 s2 s3 s4, Value.bool rb], ptr p, Value.agg #[Value.int IntKind.i64 x, Value.int IntKind.i64 y], Value.tuple #[rct s1 s2 s3 s4, Value.bool rb], rct s1 s2 s3 s4, Value.bool rb, Value.tuple #[rct s1 s2 s3 s4, Value.bool rb], Value.pointer (some { block := w.heap.size, off := 0 }), Value.int IntKind.i64 W, Value.pointer (some { block := w.heap.size, off := 1 }), Value.int IntKind.i64 H, Value.agg #[Value.int IntKind.i64 x, Value.int IntKind.i64 y], Value.tuple #[rct s1 s2 s3 s4, Value.bool rb], rct s1 s2 s3 s4, Value.bool rb, Value.agg #[Value.int IntKind.i64 s1, Value.int IntKind.i64 s2, Value.int IntKind.i64 s3, Value.int IntKind.i64 s4], Value.agg #[Value.int IntKind.i64 s1, Value.int IntKind.i64 s2, Value.int IntKind.i64 s3, Value.int IntKind.i64 s4], Value.bool false, Value.bool false, Value.bool rb, Value.bool rb, Value.bool false, Value.bool false, Value.agg #[Value.int IntKind.i64 (-1), Value.int IntKind.i64 (-1)], ptr p, Value.func (Fn.func 21) #[] #[ptr (w6.heap.size + 2 + 2)], cel q.1.1 q.1.2, undef, undef, undef, undef, undef, undef, undef, undef, undef, undef, undef, undef, undef, undef, undef, undef, undef, undef, undef, undef, undef, undef, undef, undef, undef, undef, undef, undef, undef, undef, undef, undef, undef, undef, undef, undef, undef, undef, undef, undef, undef, undef, undef, undef, undef, undef, undef, undef, undef, undef, undef, undef, undef, undef, undef, undef, undef, undef, undef, undef, undef, undef, undef, undef, undef, undef, undef, undef, undef, undef, undef], defers := [] })
    (fun q a' _ X Y row hs hg hr => by obtain ⟨Bx, e1, e2, e3⟩ := hs; exact ⟨Bx, e1, e2.own hg (fun r e => (hr r e).2), e3⟩)
    ?assign ?body ?done ?stop
  case assign =>
    rintro l pre q X K ⟨⟨⟨hN, hL⟩, hz, ha⟩, hB⟩ hK
    gi_wp2
    exact hK _ _ (Keep.of_below (box1 _ _)) trivial ⟨⟨⟨hN.alloc _, hL.alloc⟩, by simp; omega, ha⟩, hB.alloc (by omega) _⟩ ⟨X.heap.size, by omega, Two.newAt rfl, rfl⟩
  case body =>
    rintro l pre q a' X hl ⟨⟨⟨hN, hL⟩, hz, ha⟩, hB⟩ ⟨Bx, hBx, bX, rfl⟩ hlt
    dsimp only
    have WX := W7.kept hB
    have PX := boxed_upto P7 hB P7.lt
    have RX := boxed_upto R7 hB R7.lt
    have cP := PX.cell
    obtain ⟨⟨q0, q1⟩, -, -⟩ := id bX
    obtain ⟨v1, v2, v3, v4, hsv⟩ := rV_form W H q.1.1 q.1.2
    have HRq := hide (rect_any q.1.1 q.1.2 WX)
    have HLs := hide (less_any (lastK pre).1 (lastK pre).2 q.1.1 q.1.2)
    have HWH' := HWH.out
    have hbi := @rB_iff W H q.1.1 q.1.2 HWH'.1 HWH'.2
    obtain ⟨lk, hlk⟩ : ∃ b, decide ((lastK pre).2 < q.1.2 ∨ ((lastK pre).2 = q.1.2 ∧ (lastK pre).1 < q.1.1)) = b := ⟨_, rfl⟩
    have HLk : Hid (lessK (lastK pre) q.1 = lk) := hide hlk
    rw [hlk] at HLs
    clear hlk
    rw [hsv] at HRq
    have hsn := arK_snoc W H pre q
    have hlsn := lastK_snoc pre q
    obtain ⟨rb2, hrb2⟩ : ∃ b, rB W H q.1.1 q.1.2 = b := ⟨_, rfl⟩
    rw [hrb2] at HRq
    have HFa : Hid (rb2 = true → (v3 = rS W q.1.1 ∧ v4 = rS H q.1.2) ∧ (1 ≤ v3 ∧ v3 ≤ 8) ∧ 1 ≤ v4 ∧ v4 ≤ 8) := hide fun ht => by
      have h1 : rB W H q.1.1 q.1.2 = true := by rw [hrb2, ht]
      rw [rV, if_pos h1] at hsv
      simp only [Value.agg.injEq, Array.mk.injEq, List.cons.injEq, Value.int.injEq, true_and, and_true] at hsv
      obtain ⟨-, -, e3, e4⟩ := hsv
      have h2 := hbi.1 h1
      rw [← e3, ← e4]
      exact ⟨⟨rfl, rfl⟩, rS_range HWH'.1 h2.1, rS_range HWH'.2 h2.2⟩
    have HRb := hide hrb2
    have Hsn := hide hsn
    have Hlsn := hide hlsn
    have hai : arK W H pre ≤ 16384 := by omega
    have Ha := hide ha
    have HlB := hide hlt
    have ha0 := ha.1
    clear hsv hbi hrb2 hsn hlsn ha hlt
    generalize hqx : q.1.1 = qx at *
    generalize hqy : q.1.2 = qy at *
    generalize hlx : (lastK pre).1 = lx at *
    generalize hly : (lastK pre).2 = ly at *
    generalize har : arK W H pre = ar at *
    have hkX := hL.2.2
    gi_wp2_with fail
    refine ⟨trivial, ?_⟩
    refine (CallsIn.inRound l (callsIn_wide.2 HRq.out)).mono ?_
    rintro e Y1 ⟨rfl, hb1⟩
    obtain ⟨Y2, h2⟩ : ∃ Y2, Y1.alloc (.cells #[.int .i64 v1, .int .i64 v2, .int .i64 v3, .int .i64 v4] 34) = Y2 := ⟨_, rfl⟩
    have B2 : Below X.heap.size X Y2 := bt hb1 (by rw [← h2]; exact box1 _ _)
    have F2 : Four Y2 Y1.heap.size v1 v2 v3 v4 := by rw [← h2]; exact Four.new _ _ _ _ _ _
    have N2 := boxed_upto hN B2 hN.lt
    have L2 := hL.kept B2
    have R2 := boxed_upto RX B2 RX.lt
    have C2 := bX.kept B2
    have BB2 : Below w7.heap.size w7 Y2 := hB.trans (B2.mono hB.size)
    have K2 : Keep w9.heap.size X Y2 := Keep.of_below B2
    have hs2 := B2.size
    clear hb1 cP q0 q1 HRq WX PX RX hN hL bX B2
    cases rb2
    · have cR := R2.cell
      have fR := R2.frozen
      gi_wp2_with fail
      refine ⟨trivial, ?_⟩
      gi_wp2_with fail
      refine ⟨K2.trans (Keep.set _ _ (by simp; omega)), pre, q, rfl, fun hh => ?_⟩
      have := HRb.out
      rw [hqx, hqy] at hh
      rw [this] at hh
      cases hh.1
    · obtain ⟨hvv, hr3, hr4⟩ := HFa.out rfl
      have HVV := hide hvv
      clear hvv
      obtain ⟨⟨l0, l1⟩, ⟨lf0, lf1⟩, lz⟩ := id L2
      obtain ⟨⟨q0, q1⟩, -, -⟩ := id C2
      gi_wp2_with fail
      clear h2
      refine ⟨trivial, ?_⟩
      refine (CallsIn.inRound l (callsIn_wide.2 (HLs.out Y2))).mono ?_
      rintro e Y3 ⟨rfl, hb3⟩
      have F3 := F2.kept hb3
      have N3 := boxed_upto N2 hb3 N2.lt
      have L3 := L2.kept hb3
      have R3 := boxed_upto R2 hb3 R2.lt
      have C3 := C2.kept hb3
      have BB3 : Below w7.heap.size w7 Y3 := BB2.trans (hb3.mono BB2.size)
      have K3 : Keep w9.heap.size X Y3 := K2.trans (Keep.of_below hb3)
      have hs3 := hb3.size
      clear l0 l1 lf0 lf1 lz q0 q1 N2 L2 R2 C2 F2 BB2 K2 hb3 HLs
      cases lk
      · have cR := R3.cell
        have fR := R3.frozen
        gi_wp2_with fail
        refine ⟨K3.trans (Keep.set _ _ (by simp; omega)), pre, q, rfl, fun hh => ?_⟩
        rw [HLk.out] at hh
        cases hh.2
      · obtain ⟨⟨l0, l1⟩, ⟨lf0, lf1⟩, lz⟩ := id L3
        obtain ⟨⟨q0, q1⟩, -, -⟩ := id C3
        obtain ⟨⟨-, -, f2, f3⟩, -, -⟩ := id F3
        have cN := N3.cell
        have fN := N3.frozen
        obtain ⟨pr, hpr⟩ : ∃ pr, v3 * v4 = pr := ⟨_, rfl⟩
        have hprb : 1 ≤ pr ∧ pr ≤ 64 := by
          rw [← hpr]
          obtain ⟨k3, rfl⟩ := Int.eq_ofNat_of_zero_le (show 0 ≤ v3 by omega)
          obtain ⟨k4, rfl⟩ := Int.eq_ofNat_of_zero_le (show 0 ≤ v4 by omega)
          have h1 := Nat.mul_le_mul (show k3 ≤ 8 by omega) (show k4 ≤ 8 by omega)
          have h2 := Nat.mul_le_mul (show 1 ≤ k3 by omega) (show 1 ≤ k4 by omega)
          have e : ((k3 : Nat) : Int) * ((k4 : Nat) : Int) = ((k3 * k4 : Nat) : Int) := by push_cast; rfl
          rw [e]
          omega
        have ew1 : IntKind.i64.wrap (v3 * v4) = pr := by rw [hpr, IntKind.wrap_i64]; omega
        have ew2 : IntKind.i64.wrap (ar + pr) = ar + pr := by rw [IntKind.wrap_i64]; omega
        have hne1 : ¬ w6.heap.size + 2 = w6.heap.size + 2 + 1 := by omega
        have Har : Hid (arK W H (pre ++ [q]) = ar + pr) := hide (by rw [Hsn.out, ← hpr, HVV.out.1, HVV.out.2])
        clear hpr
        gi_wp2_with fail
        have N4 := N3.set (.int .i64 (ar + pr))
        have hE1 : (Y3.setCell ⟨w6.heap.size + 2, 0, none⟩ (.int .i64 (ar + pr))).heap[w6.heap.size + 2 + 1]? = Y3.heap[w6.heap.size + 2 + 1]? := Below.heap_setCell _ _ _ _ (by simp)
        have L4 := L3.blk hE1
        have L5 := Two.set (s := qx) (t := qy) L4
        have N5 : Boxed (((Y3.setCell ⟨w6.heap.size + 2, 0, none⟩ (.int .i64 (ar + pr))).setCell ⟨w6.heap.size + 2 + 1, 0, none⟩ (.int .i64 qx)).setCell ⟨w6.heap.size + 2 + 1, 1, none⟩ (.int .i64 qy)) (w6.heap.size + 2) 3 (.int .i64 (ar + pr)) :=
          (Below.heap_setCell _ ⟨w6.heap.size + 2 + 1, 1, none⟩ _ (w6.heap.size + 2) (by simp)).trans ((Below.heap_setCell _ ⟨w6.heap.size + 2 + 1, 0, none⟩ _ (w6.heap.size + 2) (by simp)).trans N4)
        have hl7 := HlB.out
        have haa := Ha.out
        refine ⟨((K3.trans (Keep.set _ _ (by simp; omega))).trans (Keep.set _ _ (by simp; omega))).trans (Keep.set _ _ (by simp; omega)), trivial, ⟨⟨by rw [Har.out]; exact N5, by rw [Hlsn.out, hqx, hqy]; exact L5⟩, ?_, by rw [Har.out]; omega, ?_⟩, ?_⟩
        · simp [World.setCell]; omega
        · rw [Har.out, List.length_append, List.length_singleton]; push_cast; omega
        · exact ((BB3.setCell (p := ⟨w6.heap.size + 2, 0, none⟩) (by simp; omega) _).setCell (p := ⟨w6.heap.size + 2 + 1, 0, none⟩) (by simp; omega) _).setCell (p := ⟨w6.heap.size + 2 + 1, 1, none⟩) (by simp; omega) _
  case done =>
    rintro D xs X hD rfl ⟨⟨⟨hN, -⟩, hz, -⟩, hB⟩ hK
    rw [arK_all HWH.out.1 HWH.out.2] at hN
    have WX := W7.kept hB
    have PX := boxed_upto P7 hB P7.lt
    have RX := boxed_upto R7 hB R7.lt
    have MX := M7.kept hB
    have TX := T7.kept hB
    have AX := boxed_upto A7 hB A7.lt
    have BX : Below w.heap.size w X := bt HB7.out hB
    obtain ⟨Y1, h1⟩ : ∃ Y1, X.alloc (.cells #[.int .i64 (-1)] 3) = Y1 := ⟨_, rfl⟩
    have D1 : Boxed Y1 X.heap.size 3 (.int .i64 (-1)) := by rw [← h1]; exact Boxed.new X 3 _
    have B1 : Below X.heap.size X Y1 := by rw [← h1]; exact box1 _ _
    have zY1 : Y1.heap.size = X.heap.size + 1 := by rw [← h1]; simp
    have P1 := boxed_upto PX B1 PX.lt
    have T1 := TX.kept B1
    have cP := P1.cell
    obtain ⟨⟨t0, t1⟩, -, -⟩ := id T1
    gi_wp2_with fail
    clear h1
    refine ⟨trivial, ?_⟩
    refine (callsIn_wide.2 (around_any p x y Y1)).mono ?_
    rintro e Y2 ⟨rfl, h2⟩
    have B2 : Below Y1.heap.size Y1 Y2 := by rw [h2]; exact box2 _ _ _
    have Q2 : Boxed Y2 Y1.heap.size 29 (ptr p) := by rw [h2]; exact (Boxed.new Y1 29 _).alloc _
    have C2 : Two Y2 (Y1.heap.size + 1) x y := by rw [h2]; exact Two.newAt (by simp)
    have z2 : Y2.heap.size = Y1.heap.size + 2 := by rw [h2]; simp
    have B02 := bt B1 B2
    clear h2 cP t0 t1 T1 P1
    gi_wp2_with fail
    rw [zY1] at Q2 C2
    have hsz2 := B02.size
    have hDl := (Array.getElem?_eq_some_iff.1 hK).1
    have OY := HO.out.kept (bt BX B02)
    have hX0 : 0 < X.heap.size := Nat.lt_of_lt_of_le HO.out.1 BX.size
    have D2 := boxed_upto D1 B2 D1.lt
    have hzz : w9.heap.size ≤ X.heap.size := hz
    clear D1 B1 B2
    refine range_nest (n := 10) (by omega) (gf := 23) (lb := #[ptr (X.heap.size + 1), ptr (X.heap.size + 1 + 1)]) rfl (enters_of Tryd.func23 (by kernel_rfl) rfl)
      (car_seq (10 - 1) p (X.heap.size + 1) W H x y tl (whoF L) Y2 (by omega) Q2 C2 (WX.kept B02) OY) kB_t (kB_b (by omega)) (Below.refl _ _) (fun _ => rfl)
      (fun pre Z => (Boxed Z X.heap.size 3 (.int .i64 (lastD pre)) ∧ Y2.heap.size ≤ Z.heap.size) ∧ Below X.heap.size X Z)
      (fun pre Z => BadD W H x y pre)
      (OwnFrom.and (OwnFrom.and (Own.from (boxed_own _ _ _) _) (ownFrom_size _ _)) (ownFrom_below (Nat.le_refl _) (by omega)))
      (fun s X Y row hs hg hr => hs)
      ⟨⟨by rw [lastD_nil]; exact D2, Nat.le_refl _⟩, B02⟩
      (fun t a' Z => ∃ Bx, Y2.heap.size ≤ Bx ∧ Two Z Bx (x + dX t.val) (y + dY t.val) ∧ a' = { tmps := #[mp W H (Value.slice a1 tl.length cap1) (Value.slice a2 L.length cap2), cel x y, Value.pointer (some { block := w.heap.size, off := 0 }), Value.pointer (some { block := w.heap.size + 1, off := 0 }), Value.pointer (some { block := w.heap.size + 1 + 1, off := 0 }), Value.pointer (some { block := w2.heap.size, off := 0 }), ptr rp, Value.bool true, Value.pointer (some { block := w4.heap.size, off := 0 }), Value.bool rb, Value.pointer (some { block := w6.heap.size, off := 0 }), Value.pointer (some { block := w6.heap.size + 1, off := 0 }), Value.pointer (some { block := w6.heap.size + 2, off := 0 }), Value.pointer (some { block := w6.heap.size + 2 + 1, off := 0 }), undef, undef, undef, Value.pointer (some { block := X.heap.size, off := 0 }), Value.int IntKind.i64 (t.val : Int), ptr Bx, undef, undef, undef, undef, Value.bool true, Value.bool false, Value.tuple #[ptr p, ptr rp, Value.bool true], Value.agg #[Value.int IntKind.i64 W, Value.int IntKind.i64 H, Value.slice a1 tl.length cap1, Value.slice a2 L.length cap2], Value.tuple #[ptr p, ptr rp, Value.bool true], ptr p, ptr rp, Value.bool true, Value.bool true, Value.bool false, undef, Value.tuple #[rct s1 s2 s3 s4, Value.bool rb], ptr p, Value.agg #[Value.int IntKind.i64 x, Value.int IntKind.i64 y], Value.tuple #[rct s1 s2 s3 s4, Value.bool rb], rct s1 s2 s3 s4, Value.bool rb, Value.tuple #[rct s1 s2 s3 s4, Value.bool rb], Value.pointer (some { block := w.heap.size, off := 0 }), Value.int IntKind.i64 W, Value.pointer (some { block := w.heap.size, off := 1 }), Value.int IntKind.i64 H, Value.agg #[Value.int IntKind.i64 x, Value.int IntKind.i64 y], Value.tuple #[rct s1 s2 s3 s4, Value.bool rb], rct s1 s2 s3 s4, Value.bool rb, Value.agg #[Value.int IntKind.i64 s1, Value.int IntKind.i64 s2, Value.int IntKind.i64 s3, Value.int IntKind.i64 s4], Value.agg #[Value.int IntKind.i64 s1, Value.int IntKind.i64 s2, Value.int IntKind.i64 s3, Value.int IntKind.i64 s4], Value.bool false, Value.bool false, Value.bool rb, Value.bool rb, Value.bool false, Value.bool false, Value.agg #[Value.int IntKind.i64 (-1), Value.int IntKind.i64 (-1)], ptr p, Value.func (Fn.func 21) #[] #[ptr (w6.heap.size + 2 + 2)], undef, undef, undef, undef, undef, undef, undef, undef, undef, undef, undef, undef, undef, undef, undef, undef, undef, undef, undef, undef, undef, undef, undef, ptr p, Value.agg #[Value.int IntKind.i64 x, Value.int IntKind.i64 y], Value.func (Fn.func 23) #[] #[ptr (X.heap.size + 1), ptr (X.heap.size + 1 + 1)], Value.int IntKind.i64 (t.val : Int), cel (x + dX t.val) (y + dY t.val), undef, undef, undef, undef, undef, undef, undef, undef, undef, undef, undef, undef, undef, undef, undef, undef, undef, undef, undef, undef, undef, undef, undef, undef, undef, undef, undef, undef, undef, undef, undef, undef, undef, undef, undef, undef, undef, undef, undef, undef, undef, undef, undef, undef], defers := [] })
      (fun q a' _ X Y row hs hg hr => by obtain ⟨Bx, e1, e2, e3⟩ := hs; exact ⟨Bx, e1, e2.own hg (fun r e => (hr r e).2), e3⟩)
      ?assign2 ?body2 ?done2 ?stop2
    case assign2 =>
      rintro l pre q Z K ⟨⟨hD2, hz2⟩, hB2⟩ hK2
      gi_wp2
      exact hK2 _ _ (Keep.of_below (box1 _ _)) (kB_below (box1 _ _) (by omega)) ⟨⟨hD2.alloc _, by simp; omega⟩, hB2.alloc (by omega) _⟩ ⟨Z.heap.size, by omega, Two.newAt rfl, rfl⟩
    case body2 =>
      rintro l pre t a' Z hl ⟨⟨hD2, hz2⟩, hB2⟩ ⟨Bx, hBx, bX, rfl⟩ hlt
      dsimp only
      have hlr := lastD_range pre
      have htr : (0 : Int) ≤ (t.val : Int) ∧ (t.val : Int) ≤ 7 := by have := t.isLt; omega
      have hsn := lastD_snoc pre t
      have HIx : Hid (¬ (rB W H x y = true ∧ t.val < 4 ∧ sB x y (t.val : Int) = true ∧ rB W H (x + dX t.val) (y + dY t.val) = true ∧ lastD pre < (t.val : Int)) → BadD W H x y (pre ++ [t])) := hide fun h => ⟨pre, t, rfl, h⟩
      have HSt := hide (refstep_any x y (t.val : Int))
      have hsx : sB x y (t.val : Int) = true → sX x y (t.val : Int) = x + dX t.val ∧ sY x y (t.val : Int) = y + dY t.val := fun h => by
        rw [sX_yes h, sY_yes h, Int.toNat_natCast]; exact ⟨rfl, rfl⟩
      obtain ⟨v1, v2, v3, v4, hsv⟩ := rV_form W H (x + dX t.val) (y + dY t.val)
      have HRq : Hid (∀ wx, Calls Tryd.prog 7 #[.int .i64 W, .int .i64 H, cel (x + dX t.val) (y + dY t.val)] wx fun e w' => e = .returned (.tuple #[rV W H (x + dX t.val) (y + dY t.val), .bool (rB W H (x + dX t.val) (y + dY t.val))]) ∧ Below wx.heap.size wx w') := hide fun wx => refrect_any W H _ _ HWH.out.1 HWH.out.2
      rw [hsv] at HRq
      clear hsv
      have ht3 : t.val < 4 ↔ ¬ (3 : Int) < (t.val : Int) := by omega
      obtain ⟨ld, hld⟩ : ∃ d, lastD pre = d := ⟨_, rfl⟩
      rw [hld] at hD2 HIx hlr
      clear hld
      obtain ⟨sb, hsb⟩ : ∃ b, sB x y (t.val : Int) = b := ⟨_, rfl⟩
      obtain ⟨b4, hb4⟩ : ∃ b, rB W H (x + dX t.val) (y + dY t.val) = b := ⟨_, rfl⟩
      have hrb := HRB.out
      rw [hsb] at HIx HSt hsx
      rw [hb4] at HIx HRq
      rw [hrb] at HIx
      clear hsb hb4 hrb
      generalize x + dX t.val = cx at *
      generalize y + dY t.val = cy at *
      generalize sX x y (t.val : Int) = nx at *
      generalize sY x y (t.val : Int) = ny at *
      rw [ht3] at HIx
      clear ht3
      generalize hti : (t.val : Int) = ti at *
      have TZ := TX.kept hB2
      have RZ := boxed_upto RX hB2 RX.lt
      have AZ := boxed_upto AX hB2 AX.lt
      have MZ := MX.kept hB2
      have HSx := hide hsx
      have Hsn := hide hsn
      clear hsx hsn
      obtain ⟨⟨t0, t1⟩, -, -⟩ := id TZ
      gi_wp2_with fail
      refine ⟨trivial, ?_⟩
      refine (CallsIn.inRound l (callsIn_wide.2 (HSt.out Z))).mono ?_
      rintro e Z1 ⟨rfl, hb1⟩
      obtain ⟨Z2, h2⟩ : ∃ Z2, Z1.alloc (.cells #[.int .i64 nx, .int .i64 ny] 27) = Z2 := ⟨_, rfl⟩
      have B2 : Below Z.heap.size Z Z2 := bt hb1 (by rw [← h2]; exact box1 _ _)
      have S2 : Two Z2 Z1.heap.size nx ny := by rw [← h2]; exact Two.newAt rfl
      have DZ := boxed_upto hD2 B2 hD2.lt
      have RZ2 := boxed_upto RZ B2 RZ.lt
      have AZ2 := boxed_upto AZ B2 AZ.lt
      have MZ2 := MZ.kept B2
      have CZ := bX.kept B2
      have BB2 : Below X.heap.size X Z2 := hB2.trans (B2.mono hB2.size)
      have K2 : Keep Y2.heap.size Z Z2 := Keep.of_below B2
      have hs2 := B2.size
      have KB2 : KB 0 Z Z2 := kB_below B2 (by omega)
      clear hb1 t0 t1 TZ RZ AZ MZ hD2 bX B2 HSt
      have cD := DZ.cell
      have cR := RZ2.cell
      have fR := RZ2.frozen
      obtain ⟨⟨n0, n1⟩, -, -⟩ := id S2
      obtain ⟨⟨q0, q1⟩, -, -⟩ := id CZ
      by_cases h1 : ti ≤ ld
      · gi_wp2_with fail
        exact ⟨K2.trans (Keep.set _ _ (by simp; omega)), HIx.out (fun h => by omega)⟩
      · by_cases h3 : 3 < ti
        · gi_wp2_with fail
          exact ⟨K2.trans (Keep.set _ _ (by simp; omega)), HIx.out (fun h => absurd h.2.1 (by omega))⟩
        · have hout : ¬ (nx = cx ∧ ny = cy) → sb = false := fun h => by
            cases sb
            · rfl
            · exact absurd (HSx.out rfl) h
          by_cases hx : cx = nx
          · by_cases hy : cy = ny
            · subst hx; subst hy
              obtain ⟨m0, m1, -, -⟩ := MZ2.c
              have cA := AZ2.cell
              gi_wp2_with fail
              refine ⟨trivial, ?_⟩
              refine (CallsIn.inRound l (callsIn_wide.2 (HRq.out Z2))).mono ?_
              rintro e Z3 ⟨rfl, hb3⟩
              obtain ⟨Z4, h4⟩ : ∃ Z4, Z3.alloc (.cells #[.int .i64 v1, .int .i64 v2, .int .i64 v3, .int .i64 v4] 34) = Z4 := ⟨_, rfl⟩
              have B4 : Below Z2.heap.size Z2 Z4 := bt hb3 (by rw [← h4]; exact box1 _ _)
              have DZ4 := boxed_upto DZ B4 DZ.lt
              have RZ4 := boxed_upto RZ2 B4 RZ2.lt
              have AZ4 := boxed_upto AZ2 B4 AZ2.lt
              have BB4 : Below X.heap.size X Z4 := BB2.trans (B4.mono BB2.size)
              have K4 : Keep Y2.heap.size Z Z4 := K2.trans (Keep.of_below B4)
              have hs4 := B4.size
              have KB4 : KB 0 Z Z4 := kB_t KB2 (kB_below B4 (by omega))
              clear hb3 m0 m1 cA cD cR fR n0 n1 q0 q1 DZ RZ2 AZ2 MZ2 CZ S2 B4 HRq h2
              have cR := RZ4.cell
              have fR := RZ4.frozen
              have cA := AZ4.cell
              have cD := DZ4.cell
              have fD := DZ4.frozen
              cases b4
              · gi_wp2_with fail
                exact ⟨K4.trans (Keep.set _ _ (by simp; omega)), HIx.out (fun h => by cases h.2.2.2.1)⟩
              · cases rb
                · gi_wp2_with fail
                  exact ⟨K4.trans (Keep.set _ _ (by simp; omega)), HIx.out (fun h => by cases h.1)⟩
                · gi_wp2_with fail
                  refine ⟨K4.trans (Keep.set _ _ (by simp; omega)), kB_t KB4 (Below.heap_setCell _ ⟨X.heap.size, 0, none⟩ _ 0 (by simp; omega)), ⟨by rw [Hsn.out]; exact DZ4.set _, by simp [World.setCell]; omega⟩, BB4.setCell (p := ⟨X.heap.size, 0, none⟩) (by simp) _⟩
            · gi_wp2_with fail
              exact ⟨K2.trans (Keep.set _ _ (by simp; omega)), HIx.out (fun h => by rw [hout (fun e => hy e.2.symm)] at h; cases h.2.2.1)⟩
          · gi_wp2_with fail
            exact ⟨K2.trans (Keep.set _ _ (by simp; omega)), HIx.out (fun h => by rw [hout (fun e => hx e.1.symm)] at h; cases h.2.2.1)⟩
    case done2 =>
      rintro D' xs Z hD' hS ⟨⟨-, hz2⟩, hB2⟩ hK2
      have NZ := boxed_upto hN hB2 hN.lt
      have RZ := boxed_upto RX hB2 RX.lt
      have MZ := MX.kept hB2
      have hKZ := (hB2.block D hDl).trans hK
      have BZ : Below w.heap.size w Z := bt BX hB2
      have cN := NZ.cell
      obtain ⟨m0, m1, -, -⟩ := MZ.c
      have hWb := HWH.out
      obtain ⟨N, hNN⟩ : ∃ N, W * H = N := ⟨_, rfl⟩
      have hNb : 0 ≤ N ∧ N ≤ 16384 := by
        obtain ⟨wd, rfl⟩ := Int.eq_ofNat_of_zero_le (show 0 ≤ W by omega)
        obtain ⟨ht, rfl⟩ := Int.eq_ofNat_of_zero_le (show 0 ≤ H by omega)
        have := Nat.mul_le_mul (show wd ≤ 128 by omega) (show ht ≤ 128 by omega)
        rw [← hNN]
        have e : ((wd : Nat) : Int) * ((ht : Nat) : Int) = ((wd * ht : Nat) : Int) := by push_cast; rfl
        rw [e]
        omega
      have ew : IntKind.i64.wrap (W * H) = N := by rw [hNN, IntKind.wrap_i64]; omega
      rw [hNN] at cN
      have hD'l := (Array.getElem?_eq_some_iff.1 hK2).1
      have hne : D ≠ D' := by omega
      clear hWb hNN
      gi_wp2_with fail
      refine ⟨trivial, ?_⟩
      refine (callsIn_wide.2 (aw_is Z)).mono ?_
      rintro e Z1 ⟨rfl, hb1⟩
      have RZ1 := boxed_upto RZ hb1 RZ.lt
      have hKa := (hb1.block D' hD'l).trans hK2
      have hKb := (hb1.block D (by omega)).trans hKZ
      have BZ1 := bt BZ hb1
      have cR := RZ1.cell
      have fR := RZ1.frozen
      have hsB := BZ1.size
      have hsz1 := hb1.size
      have hszw := BX.size
      clear cN m0 m1 ew hb1
      gi_wp2_with fail
      have hKa' := (KeepsOthers.setCell Z1 ⟨w.heap.size + 1 + 1, 0, none⟩ (.bool true)).same D' _ hKa rfl
      have hKb' := (KeepsOthers.setCell Z1 ⟨w.heap.size + 1 + 1, 0, none⟩ (.bool true)).same D _ hKb rfl
      have RZ2 := RZ1.set (.bool true)
      have BZ2 : Below w.heap.size w (Z1.setCell ⟨w.heap.size + 1 + 1, 0, none⟩ (.bool true)) := BZ1.setCell (p := ⟨w.heap.size + 1 + 1, 0, none⟩) (by simp; omega) _
      refine ⟨by simp, .inl ⟨_, _, rfl, run_takeDeferred hKa', ?_⟩⟩
      have hKb2 : ((Z1.setCell ⟨w.heap.size + 1 + 1, 0, none⟩ (.bool true)).putObj D' (.deferred none)).heap[D]? = some (.deferred (some [])) := (World.putObj_heap_other (by omega)).trans hKb'
      refine ⟨by simp, .inl ⟨_, _, rfl, run_takeDeferred hKb2, ?_⟩⟩
      have c1 := cell_kept RZ2.cell (grownBy_putObj' _ D' (.deferred none)) (fun r e => by cases e; exact ⟨_, hKa', rfl⟩)
      have c2 := cell_kept c1 (grownBy_putObj' _ D (.deferred none)) (fun r e => by cases e; exact ⟨_, hKb2, rfl⟩)
      refine ⟨.bool true, by simp [results, Tryd.f3, go_sem, c2], rfl, ?_⟩
      exact (BZ2.trans (belowK_b (w := w) (Nat.le_refl _) _ D' _ _ (by omega) hKa' rfl rfl)).trans (belowK_b (w := w) (Nat.le_refl _) _ D _ _ (by omega) hKb2 rfl rfl)
    case stop2 =>
      rintro D' pre Z hD' hpre ⟨p0, t, rfl, hbad⟩ hK2
      exact absurd (nbs_ok hpre) hbad
  case stop =>
    rintro D pre X hD hpre ⟨p0, q, rfl, hbad⟩ hK
    exact absurd (next_ok HWH.out.1 HWH.out.2 hpre) hbad
theorem rects_walk (W H : Int) (tv bv : Value) (tl : List Nat) (L : List Bd) (x y : Int) (w : World) (hv : TlR w tv tl) (hb : ∀ n ∈ tl, n < 256) (hl : BdR w bv L) (ho : Offs w) :
    Calls Tryd.prog 3 #[mp W H tv bv, cel x y] w fun e w' => e = .returned (.bool true) ∧ Below w.heap.size w w' := by
  rcases chkC_two W H tl L with hc | hc
  · exact rects_yes W H tv bv tl L x y w hv hb hl ho hc
  · exact rects_no W H tv bv tl L x y w hv hb hl hc
end Go.Proofs.YtpikfplmghofbaaDoor
