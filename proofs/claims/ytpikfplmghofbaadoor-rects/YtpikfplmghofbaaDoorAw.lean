/-
  What phalanxlaw11.awake tells: true.
-/
import Derived.Test.YtpikfplmghofbaaDoorAllSeq
import Derived.RangeFuncKeeps
set_option linter.unusedSimpArgs false
namespace Go.Proofs.YtpikfplmghofbaaDoor
open Go.RowKit Go.Shelf
set_option linter.unusedVariables false
attribute [local go_sem] Oper.semAt_some
theorem eqf (b : Nat) (w : World) : (binOp .eql 39 (.func (.func 21) #[] #[ptr b]) .nilFunc).run Tryd.prog w = .ok (.bool false) w := by kernel_rfl
theorem of9 (w : World) : Calls Tryd.prog 13 #[cel 9 0] w fun e w' => e = .returned (cel 1 0) ∧ Below w.heap.size w w' := of_any 9 0 (by decide) (by decide) w
theorem ofm (w : World) : Calls Tryd.prog 13 #[cel (-1) 0] w fun e w' => e = .returned (cel (-1) 0) ∧ Below w.heap.size w w' := of_any (-1) 0 (by decide) (by decide) w
set_option maxRecDepth 100000 in
set_option maxHeartbeats 4000000 in
theorem aw_is (w : World) : Calls Tryd.prog 4 #[] w fun e w' => e = .returned (.bool true) ∧ Below w.heap.size w w' := by
  have hmk := make10 w
  have HN := hide (new10 w)
  refine (callsIn_wide (n := 10)).1 ?_
  refine callsIn_of_wp_marks Tryd.func4 rfl trivial ?_ rfl
  simp only [Tryd.ntmps4, List.size_toArray, List.length_cons, List.length_nil, Nat.reduceAdd, Nat.reduceSub, Array.replicate_succ, Array.replicate_zero, List.push_toArray, List.append_toArray, List.nil_append, List.cons_append]
  gi_wp2_with fail
  refine ⟨trivial, ?_⟩
  refine (callsIn_wide.2 HN.out).mono ?_
  rintro e w1 ⟨p, rfl, hw1, hb1⟩
  clear hmk HN
  gi_wp2_with fail
  refine ⟨trivial, ?_⟩
  refine (callsIn_wide.2 (call_any p w1)).mono ?_
  rintro e w2 ⟨rfl, h2⟩
  have B2 : Below w1.heap.size w1 w2 := by rw [h2]; exact box1 _ _
  have P2 : Boxed w2 w1.heap.size 29 (ptr p) := by rw [h2]; exact Boxed.new w1 29 _
  have z2 : w2.heap.size = w1.heap.size + 1 := by rw [h2]; simp
  clear h2
  obtain ⟨w3, h3⟩ : ∃ w3, w2.alloc (.cells #[.int .i64 0] 3) = w3 := ⟨_, rfl⟩
  have N3 : Boxed w3 (w1.heap.size + 1) 3 (.int .i64 0) := by rw [← h3, ← z2]; exact Boxed.new w2 3 _
  have B3 : Below w2.heap.size w2 w3 := by rw [← h3]; exact box1 _ _
  have cN := N3.cell
  have fN := N3.frozen
  have hef := eqf w1.heap.size
  gi_wp2_with fail
  clear hef h3
  obtain ⟨w4, h4⟩ : ∃ w4, w3.setCell ⟨w1.heap.size + 1, 0, none⟩ (.int .i64 0) = w4 := ⟨_, rfl⟩
  have N4 : Boxed w4 (w1.heap.size + 1) 3 (.int .i64 0) := by rw [← h4]; exact N3.set _
  have B4 : Below w2.heap.size w2 w4 := by rw [← h4]; exact B3.setCell (p := ⟨w1.heap.size + 1, 0, none⟩) (by simp; omega) _
  rw [h4]
  clear h4 cN fN N3 B3
  have P4 := boxed_upto P2 B4 P2.lt
  have hz4 := N4.lt
  have BB := bt hb1 (bt B2 B4)
  have hzw := hb1.size
  refine range_nest (n := 10) (by omega) (gf := 21) (lb := #[ptr w1.heap.size]) rfl (enters_of Tryd.func21 (by kernel_rfl) rfl)
    (call_seq (10 - 1) p w1.heap.size 10 1 tl10 (whoL []) w4 (by omega) P4 (hw1.kept (bt B2 B4))) (fun _ _ => trivial) (fun _ _ _ _ _ _ _ _ => trivial) (Below.refl _ _) (fun _ => rfl)
    (fun pre X => (Boxed X (w1.heap.size + 1) 3 (.int .i64 (pre.length : Nat)) ∧ w4.heap.size ≤ X.heap.size) ∧ Below w.heap.size w X)
    (fun pre X => False)
    (OwnFrom.and (OwnFrom.and (Own.from (boxed_own _ _ _) _) (ownFrom_size _ _)) (ownFrom_below (Nat.le_refl _) BB.size))
    (fun _ _ _ _ h _ _ => h)
    ⟨⟨N4, Nat.le_refl _⟩, BB⟩
    (fun q a' X => a' = { tmps := #[.bool false, ptr p, .int .i64 0, .func (.func 21) #[] #[ptr w1.heap.size], ptr (w1.heap.size + 1), .tuple #[ptr p, .int .i64 0], .slice (some ⟨w.heap.size, 0, none⟩) 10 10, mp 10 1 (.slice (some ⟨w.heap.size, 0, none⟩) 10 10) (.slice none 0 0), .tuple #[ptr p, .int .i64 0], ptr p, .int .i64 0, ptr p, .func (.func 21) #[] #[ptr w1.heap.size], .int .i64 0, .bool false, .bool false, .func (.func 21) #[] #[ptr w1.heap.size], .bool false, .bool false, .func (.func 21) #[] #[ptr w1.heap.size], cel q.1.1 q.1.2, undef, undef, undef, undef, undef, undef, undef, undef, undef, undef, undef, undef, undef, undef, undef, undef], defers := [] })
    (fun q a' _ X Y row hs hg hr => hs)
    ?assign ?body ?done ?stop
  case assign =>
    rintro l pre q X K hI hK
    gi_wp2
    exact hK _ _ (Keep.refl _ _) trivial hI rfl
  case body =>
    rintro l pre q a' X hl ⟨⟨bN, hz⟩, hB⟩ rfl hlt
    have cN := bN.cell
    have fN := bN.frozen
    have hli : ((pre.length : Nat) : Int) < 256 := by omega
    have h0i : (0 : Int) ≤ ((pre.length : Nat) : Int) := by omega
    generalize hk : ((pre.length : Nat) : Int) = k at *
    gi_wp2_with fail
    refine ⟨Keep.set _ _ (by simp; omega), trivial, ⟨?_, by simp [World.setCell]; omega⟩, hB.setCell (p := ⟨w1.heap.size + 1, 0, none⟩) (by simp; omega) _⟩
    have := bN.set (.int .i64 (k + 1))
    rw [List.length_append, List.length_singleton, Int.natCast_add, hk]
    exact this
  case done =>
    rintro D xs X hD rfl ⟨⟨bN, hz⟩, hB⟩ hK
    have hlen : (allK 10 1).length = 2 := by decide
    rw [hlen] at bN
    have cN := bN.cell
    have hDl := (Array.getElem?_eq_some_iff.1 hK).1
    have hzB := BB.size
    gi_wp2_with fail
    refine ⟨trivial, ?_⟩
    refine (callsIn_wide.2 (of9 X)).mono ?_
    rintro e w5 ⟨rfl, hb5⟩
    clear cN
    gi_wp2_with fail
    refine ⟨trivial, ?_⟩
    refine (callsIn_wide.2 (ofm w5)).mono ?_
    rintro e w6 ⟨rfl, hb6⟩
    gi_wp2_with fail
    have hK6 := ((bt hb5 hb6).block D hDl).trans hK
    have B6 := hB.trans ((bt hb5 hb6).mono (by omega))
    refine ⟨by simp, .inl ⟨_, _, rfl, run_takeDeferred hK6, ?_⟩⟩
    exact ⟨.bool true, by simp [results, Tryd.f4, go_sem], rfl, B6.trans (belowK_b (w := w) (Nat.le_refl _) w6 D _ _ (by omega) hK6 rfl rfl)⟩
  case stop =>
    rintro D pre X hD hpre hF hK
    exact hF.elim
end Go.Proofs.YtpikfplmghofbaaDoor
