/-
  awake: a way is kept.
-/
import Derived.Test.YtihjmgdihpeffaaEqs
namespace Go.Proofs.Ytihjmgdihpeffaa
open Go.RowKit
set_option linter.unusedVariables false
set_option linter.unusedSimpArgs false
abbrev k0 : K6 := (0, 0, 0, 0, 0, 0)
theorem k0_w6 : W6 k0 := by unfold W6; decide
theorem PC.own {w w' : World} {c m : Nat} {ov : Value} {S : Nat → Prop} {B : Nat} (hc : B ≤ c) (hm : B ≤ m) (ho : ∀ g, ov.ownBlock = some g → B ≤ g) (ht : Turns (PB c m ov) w w') (hB : B ≤ w.heap.size) : Below B w w' :=
  ht.below (fun k hk => by rcases hk with rfl | rfl | e; exact hc; exact hm; exact ho _ e) hB
set_option maxRecDepth 100000 in
set_option maxHeartbeats 4000000 in
theorem awake_any (w : World) : Calls Try.prog 6 #[] w fun e w' => e = .returned (.bool true) ∧ Below w.heap.size w w' := by
  have HN := hide (new_is 2 w)
  go_enter Try.func6, Try.ntmps6
  go_wp2_with fail
  refine HN.out.mono ?_
  rintro e W1 hW1
  rcases hW1 with ⟨-, -, c, m, rfl, hP, hc, hm, hb1⟩ | ⟨hn, -⟩
  case inr => exact absurd ⟨by omega, by omega⟩ hn
  obtain ⟨X, hX⟩ : ∃ X, W1.alloc (.cells #[.int .i64 5, .int .i64 0] 34) = X := ⟨_, rfl⟩
  have BX : Below W1.heap.size W1 X := by rw [← hX]; exact box1 _ _
  have CX : Cn X (.slice (some ⟨W1.heap.size, 0, none⟩) 1 1) [(5, 0)] := by rw [← hX]; exact Rw.single (cs := ceCs) ceCs_len W1 (5, 0)
  have PX := hP.upto BX
  have hno : ∀ g, (Value.slice (some ⟨W1.heap.size, 0, none⟩) 1 1).ownBlock = some g → ¬ PB c m (.slice none 0 0) g := fun g e hh => by
    have e : W1.heap.size = g := by simpa [Value.ownBlock] using e
    have := hP.lt hh
    omega
  have HPut := hide (put_is PX k0_w6 3 (o := 1) CX.ceR (by simp) (fun g _ hg => hno g hg))
  have B0 := hide (bt hb1 BX)
  have HS := hide (show w.heap.size ≤ X.heap.size from Nat.le_trans hb1.size BX.size)
  have HX := hide hX
  clear HN hX BX CX PX hP hb1
  go_wp2_with fail
  rw [HX.out]
  refine HPut.out.mono ?_
  rintro e W2 ⟨rfl, ov2, F2, vq, hP2, -, -, ho2, ht2⟩
  rw [show putL 2 (if (3 : Int) = 0 then [] else []) k0 (1, [(5, 0)]) = [(k0, (1, [(5, 0)]))] from rfl] at hP2
  have B2 := hide ((B0.out).trans (ht2.below (B := w.heap.size) (fun k hk => by rcases hk with rfl | rfl | e; exact hc; exact hm; cases e) HS.out))
  have HG := hide (get_is hP2 k0_w6 3)
  have hP2 := hide hP2
  clear HPut ht2 ho2 HX
  go_wp2_with fail
  refine HG.out.mono ?_
  rintro e W3 ⟨v3, rfl, hc3, -, hb3⟩
  rw [show getA 3 [(k0, (1, [(5, 0)]))] k0 3 = (true, 1, [(5, 0)]) from rfl] at hc3 ⊢
  obtain ⟨a3, n3, e3, rfl⟩ := hc3.shape
  obtain ⟨V, hV⟩ : ∃ V, W3.alloc (.cells #[.int .i64 1, .slice a3 n3 e3] 39) = V := ⟨_, rfl⟩
  have BV : Below W3.heap.size W3 V := by rw [← hV]; exact box1 _ _
  have KV : Bk V W3.heap.size 39 [.int .i64 1, .slice a3 n3 e3] := by rw [← hV]; exact Bk.new _ _ _
  have CV := hide (hc3.upto BV)
  have B3 := hide (B2.out.trans ((bt hb3 BV).mono B2.out.size))
  have HG2 := hide (get_is ((hP2.out.upto hb3).upto BV) k0_w6 2)
  have HV := hide hV
  have KV := hide KV
  clear hc3 hb3 BV hV HG
  dsimp only
  go_wp2_with fail
  rw [HV.out]
  refine HG2.out.mono ?_
  rintro e W4 ⟨v4, rfl, hc4, -, hb4⟩
  rw [show getA 3 [(k0, (1, [(5, 0)]))] k0 2 = (false, 0, []) from rfl] at hc4 ⊢
  obtain ⟨a4, n4, e4, rfl⟩ := hc4.shape
  obtain ⟨V2, hV2⟩ : ∃ V, W4.alloc (.cells #[.int .i64 0, .slice a4 n4 e4] 39) = V := ⟨_, rfl⟩
  have BV2 : Below V.heap.size V V2 := by rw [← hV2]; exact bt hb4 (box1 _ _)
  have KE := KV.out.upto BV2
  have B4 := hide (B3.out.trans (BV2.mono B3.out.size))
  obtain ⟨g, f, rfl, hgl, d0, d1⟩ := CeR.at (Cn.ceR (Rw.upto CV.out BV2)) rfl (i := 0) (q := (5, 0)) rfl
  have hn3 : n3 = 1 := by
    rcases CV.out.slice with ⟨-, e0⟩ | ⟨g', cap, e0, -⟩
    · cases e0
    · cases e0; rfl
  subst hn3
  have k1 := KE.cell 1 _ rfl
  have HV2 := hide hV2
  clear hc4 hb4 BV2 KE hV2 HG2 HV CV KV
  dsimp only
  rw [Nat.zero_mul, Nat.add_zero] at d0 d1
  go_wp2_with (rw [HV2.out])
  go_ret
  exact ⟨rfl, B4.out⟩
end Go.Proofs.Ytihjmgdihpeffaa
