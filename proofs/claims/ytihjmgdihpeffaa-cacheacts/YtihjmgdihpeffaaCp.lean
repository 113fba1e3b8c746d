/-
  The program's cache: what lies in memory; made, copied, New.
-/
import Derived.Test.YtihjmgdihpeffaaRd
namespace Go.Proofs.Ytihjmgdihpeffaa
open Go.RowKit
set_option linter.unusedVariables false
set_option linter.unusedSimpArgs false
theorem neq_map (b : Nat) (w : World) : (binOp .neq 59 (.map (some b)) (.map none)).run Try.prog w = .ok (.bool true) w := by kernel_rfl
theorem neq_map0 (w : World) : (binOp .neq 59 (.map none) (.map none)).run Try.prog w = .ok (.bool false) w := by kernel_rfl
theorem made_nil (w : World) : Calls Try.prog 17 #[.pointer none] w fun e w' => e = .returned (.bool false) ∧ w' = w := by
  go_enter Try.func17, Try.ntmps17
  go_wp2
  go_ret
  exact ⟨rfl, rfl⟩
theorem made_zero (p : Nat) (w : World) (h : w.cell? ⟨p, 2, none⟩ = some (.map none)) : Calls Try.prog 17 #[ptr p] w fun e w' => e = .returned (.bool false) ∧ w' = w := by
  have h1 := neq_map0
  go_enter Try.func17, Try.ntmps17
  go_wp2
  go_ret
  exact ⟨rfl, rfl⟩
theorem made_yes (p m : Nat) (w : World) (h : w.cell? ⟨p, 2, none⟩ = some (.map (some m))) : Calls Try.prog 17 #[ptr p] w fun e w' => e = .returned (.bool true) ∧ w' = w := by
  have h1 := neq_map
  go_enter Try.func17, Try.ntmps17
  go_wp2
  go_ret
  exact ⟨rfl, rfl⟩
theorem run_app {P : Program} {ev : Operand → Value} {o : Oper} {w w' : World} {s x : Operand} {t : TypeId} {v xv v' : Value} (ho : o.op = .call { callee := .builtin .append, args := #[s, x], argTypes := #[t, t] }) (hs : ev s = v) (hx : ev x = xv) (hr : (Builtin.append_ #[t, t] o.type #[v, xv]).run P w = .ok v' w') : (execOp ev o).run P w = .ok (.value v') w' := by
  unfold execOp
  simp [ho, resolve, invoke, builtin, hs, hx, hr, Result.andThen]
/-- What copied tells. -/
def CpE (w : World) (o : Int) (L : List (Int × Int)) (e : Ending) (w' : World) : Prop :=
  ∃ v, e = .returned (wy o v) ∧ Cn w' v L ∧ (∀ g, v.ownBlock = some g → w.heap.size ≤ g) ∧ Below w.heap.size w w'
set_option maxHeartbeats 1000000 in
theorem copied_is (o : Int) (v : Value) (L : List (Int × Int)) (w : World) (hv : CeR w v L) (hl : L.length * 16 ≤ 140737488355328) :
    Calls Try.prog 18 #[wy o v] w (CpE w o L) := by
  obtain ⟨X, hX⟩ : ∃ X, (w.alloc (.cells #[.int .i64 o, v] 39)).alloc (.cells #[.int .i64 0, .slice none 0 0] 39) = X := ⟨_, rfl⟩
  obtain ⟨Y, hY⟩ : ∃ Y, X.drew = Y := ⟨_, rfl⟩
  have B0 : Below w.heap.size w Y := by rw [← hY, ← hX]; exact (box2 _ _ _).drew
  have K0 : Bk Y w.heap.size 39 [.int .i64 o, v] := by rw [← hY, ← hX]; exact ((Bk.new w 39 [.int .i64 o, v]).upto (box1 _ _)).drew
  have K1 : Bk Y (w.heap.size + 1) 39 [.int .i64 0, .slice none 0 0] := by rw [← hY, ← hX]; refine Bk.drew ?_; have := Bk.new (w.alloc (.cells #[.int .i64 o, v] 39)) 39 [.int .i64 0, .slice none 0 0]; simpa using this
  have zY : Y.heap.size = w.heap.size + 2 := by rw [← hY, ← hX]; simp
  obtain ⟨v', Z, q1, q2, q3, q4⟩ := Cn.more (Rw.nil 34 2 ceCs Y) (hv.kept B0) (by rw [List.length_nil, Nat.zero_add]; exact hl) 37
  rw [List.nil_append] at q2
  obtain ⟨a', n', c', rfl⟩ := q2.shape
  have BZ : Below Y.heap.size Y Z := q4.below (fun k e => by cases e) (Nat.le_refl _)
  have L1 := (K1.upto BZ)
  have HS := hide ((L1.set 0 (.int .i64 o)).set 1 (.slice a' n' c'))
  have y0 := L1.cell 0 _ rfl
  have y1 := L1.cell 1 _ rfl
  have f0 := L1.frozen 0
  have f1 := L1.frozen 1
  have HK := hide K0
  have HQ := hide q1
  have HX := hide hX
  have HY := hide hY
  clear hX hY K0 q1 K1
  go_enter Try.func18, Try.ntmps18
  go_wp2_with (rw [HX.out])
  refine wp_only ?_
  refine wp_region_z (fun wx : World => Below Y.heap.size Y wx) [6] (by kernel_rfl) ?_
  rw [HY.out]
  refine zx 0 4 8 rfl (by kernel_rfl) (Below.refl _ _) ?_
  repeat (refine zxc rfl (by rfl) (fun wx hx => by have c0 := (HK.out.upto hx).cell 0 _ rfl; have c1 := (HK.out.upto hx).cell 1 _ rfl; clear hx; go_simp; rfl) ?_; simp only [zp])
  refine zxn ?_
  refine zq 4 (by kernel_rfl) rfl rfl (run_app rfl rfl rfl HQ.out) (fun _ => BZ) ?_
  refine zq 5 (by kernel_rfl) rfl rfl (v' := wy o (.slice a' n' c')) (by go_simp) (fun _ => BZ) ?_
  refine zw 6 [] (by kernel_rfl) ?_
  refine readyZ.skip rfl rfl (by go_simp; rfl) (fun h => absurd (by decide) h) ?_ readyZ.nil
  refine anyZ_done (by kernel_rfl) ?_ _
  dsimp only [Only]
  have e0 := HS.out.cell 0 _ rfl
  have e1 := HS.out.cell 1 _ rfl
  have BE : Below w.heap.size w ((Z.setCell ⟨w.heap.size + 1, 0, none⟩ (.int .i64 o)).setCell ⟨w.heap.size + 1, 1, none⟩ (.slice a' n' c')) := ((B0.trans (BZ.mono B0.size)).setCell (by show w.heap.size ≤ w.heap.size + 1; omega) _).setCell (by show w.heap.size ≤ w.heap.size + 1; omega) _
  have CE : Cn ((Z.setCell ⟨w.heap.size + 1, 0, none⟩ (.int .i64 o)).setCell ⟨w.heap.size + 1, 1, none⟩ (.slice a' n' c')) (.slice a' n' c') L := by
    have T : Turns (fun g => g = w.heap.size + 1) Z ((Z.setCell ⟨w.heap.size + 1, 0, none⟩ (.int .i64 o)).setCell ⟨w.heap.size + 1, 1, none⟩ (.slice a' n' c')) := (Turns.set (S := fun g => g = w.heap.size + 1) Z rfl _).trans (Turns.set _ (.inl rfl) _)
    exact q2.stay T (fun g hg cur hc => by subst hg; have := L1.symm.trans hc; simp at this)
  have OE : ∀ g, (Value.slice a' n' c').ownBlock = some g → w.heap.size ≤ g := fun g e => by
    rcases q3 with q | q
    · rw [q] at e; cases e
    · rw [q] at e; cases e; omega
  have HE := hide (And.intro BE (And.intro CE OE))
  clear BE CE OE q2 q3 q4 BZ L1 y0 y1 f0 f1
  go_wp2_with fail
  refine bodyPost_ret (v := wy o (.slice a' n' c')) (by simp [results, Try.results18, go_sem, e0, e1]) rfl ⟨_, rfl, HE.out.2.1, HE.out.2.2, HE.out.1⟩
end Go.Proofs.Ytihjmgdihpeffaa
