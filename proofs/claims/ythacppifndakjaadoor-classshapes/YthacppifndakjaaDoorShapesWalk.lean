/-
  phalanxlaw06.ClassShapes, walked.
-/
import Derived.Test.YthacppifndakjaaDoorAwake
namespace Go.Proofs.YthacppifndakjaaDoor
open Go.RowKit
set_option linter.unusedVariables false
theorem foot_is {c s x y u v k : Int} (w : World) (h1 : fi c s x y x = u) (h2 : fi c s x y y = v) (h3 : fi c s x y s = k) : Calls Tryd.prog 12 #[shv c s, .agg #[.int .i64 x, .int .i64 y]] w fun e w' => e = .returned (rct u v k k) ∧ Below w.heap.size w w' := by
  subst h1; subst h2; subst h3; exact foot_any c s x y w
theorem reffoot_is {c s x y u v k : Int} (w : World) (h1 : fi c s x y x = u) (h2 : fi c s x y y = v) (h3 : fi c s x y s = k) : Calls Tryd.prog 13 #[shv c s, .agg #[.int .i64 x, .int .i64 y]] w fun e w' => e = .returned (rct u v k k) ∧ Below w.heap.size w w' := by
  subst h1; subst h2; subst h3; exact reffoot_any c s x y w
set_option maxRecDepth 100000 in
set_option maxHeartbeats 4000000 in
theorem shapes_walk (c s t x y : Int) (w : World) (hg : Grnd w) (ho : Offs w) :
    Calls Tryd.prog 3 #[shv c s, .int .i64 t, .agg #[.int .i64 x, .int .i64 y]] w fun e w' => e = .returned (.bool true) ∧ Below w.heap.size w w' := by
  obtain ⟨u, hu⟩ : ∃ u, fi c s x y x = u := ⟨_, rfl⟩
  obtain ⟨v, hv⟩ : ∃ v, fi c s x y y = v := ⟨_, rfl⟩
  obtain ⟨k, hk⟩ : ∃ k, fi c s x y s = k := ⟨_, rfl⟩
  obtain ⟨b, hb⟩ : ∃ b, shB c s = b := ⟨_, rfl⟩
  obtain ⟨o, hoB⟩ : ∃ o, onB c t = o := ⟨_, rfl⟩
  have B0 := box2 w (.cells #[.int .i64 c, .int .i64 s] 23) (.cells #[.int .i64 x, .int .i64 y] 25)
  have S0 : Two ((w.alloc (.cells #[.int .i64 c, .int .i64 s] 23)).alloc (.cells #[.int .i64 x, .int .i64 y] 25)) w.heap.size c s := (Two.newAt rfl).alloc
  have C0 : Two ((w.alloc (.cells #[.int .i64 c, .int .i64 s] 23)).alloc (.cells #[.int .i64 x, .int .i64 y] 25)) (w.heap.size + 1) x y := Two.newAt (by simp)
  obtain ⟨X, hX⟩ : ∃ X, (w.alloc (.cells #[.int .i64 c, .int .i64 s] 23)).alloc (.cells #[.int .i64 x, .int .i64 y] 25) = X := ⟨_, rfl⟩
  rw [hX] at B0 S0 C0
  have HG : Hid (∀ n : Lat X, Grnd n.w ∧ Offs n.w) := hide fun n => ⟨hg.kept (bt B0 n.h), ho.kept (bt B0 n.h)⟩
  obtain ⟨s0, s1⟩ := S0.lat
  obtain ⟨c0, c1⟩ := C0.lat
  have hne := lat_some X
  have Hu := hide hu
  have Hv := hide hv
  have Hk := hide hk
  have Hb := hide hb
  have Ho := hide hoB
  clear hu hv hk hb hoB hg ho S0 C0
  go_enter Tryd.func3, Tryd.ntmps3
  go_wp2_with fail
  clear hX
  cases b <;> cases o
  all_goals
    refine wp_region_lat (by kernel_rfl) (by kernel_rfl) ?_
    repeat (go_big_quiet_step (first | (go_at_call 8; exact calls_lat (shmay_is _ Hb.out)) | (go_at_call 9; exact calls_lat (refshmay_is _ Hb.out)) | (go_at_call 10; exact calls_lat_same (on_is _ (HG.out _).1 Ho.out)) | (go_at_call 11; exact calls_lat_same (refon_is _ Ho.out)) | (go_at_call 12; exact calls_lat (foot_is _ Hu.out Hv.out Hk.out)) | (go_at_call 13; exact calls_lat (reffoot_is _ Hu.out Hv.out Hk.out)) | (go_at_call 14; exact calls_lat (awake_any _ (HG.out _).1 (HG.out _).2))))
    refine wpQuiet_nil ?_
    rintro _ ⟨n, rfl⟩
    go_wp2_with fail
    go_ret
    exact ⟨rfl, bt B0 n.h⟩
end Go.Proofs.YthacppifndakjaaDoor
