/-
  The program's makeRoom.
-/
import Derived.Test.YtihjmgdihpeffaaDel
namespace Go.Proofs.Ytihjmgdihpeffaa
open Go.RowKit
set_option linter.unusedVariables false
set_option linter.unusedSimpArgs false
theorem run_del {P : Program} {ev : Operand → Value} {o : Oper} {w w' : World} {s x : Operand} {t u : TypeId} {v xv v' : Value} (ho : o.op = .call { callee := .builtin .delete, args := #[s, x], argTypes := #[t, u] }) (hs : ev s = v) (hx : ev x = xv) (hr : (Builtin.delete_ #[t, u] o.type #[v, xv]).run P w = .ok v' w') : (execOp ev o).run P w = .ok (.value v') w' := by
  unfold execOp
  simp [ho, resolve, invoke, builtin, hs, hx, hr, Result.andThen]
theorem delete_first (q : K6) (l : List K6) (g cap : Nat) (w : World) (hv : KR w (.slice (some ⟨g, 0, none⟩) (q :: l).length cap) (q :: l)) (hl : (q :: l).length ≤ 256) :
    Calls Try.prog 24 #[.slice (some ⟨g, 0, none⟩) (q :: l).length cap, .int .i64 0, .int .i64 1] w (Deleted w g cap l) := by
  have := delete_any (q :: l) g cap 0 w hv hl (by simp)
  simp only [List.take_zero, List.drop_succ_cons, List.drop_zero, List.nil_append] at this
  exact this
/-- What is left when there is to be room for one more. -/
def mkr (room : Int) (L : List En) : List En := if (L.length : Int) < room then L else L.tail
/-- A cache that may have been turned: its blocks, what lies in them. -/
def PcE (w : World) (c m : Nat) (ov : Value) (room ep : Int) (L : List En) (w' : World) : Prop :=
  ∃ ov' F', PC w' c m ov' room ep F' L ∧ (∀ g, ov'.ownBlock = some g → ov.ownBlock = some g ∨ w.heap.size ≤ g) ∧ Turns (PB c m ov) w w'
set_option maxRecDepth 100000 in
set_option maxHeartbeats 2000000 in
theorem room_yes {w : World} {c m : Nat} {ov : Value} {room ep : Int} {F : K6 → Value} {L : List En} (h : PC w c m ov room ep F L) (hl : (L.length : Int) < room) :
    Calls Try.prog 21 #[ptr c] w fun e w' => (∃ z, e = .returned z) ∧ PcE w c m ov room ep L w' := by
  obtain ⟨Y, hY⟩ : ∃ Y, w.drew = Y := ⟨_, rfl⟩
  have BY : Below w.heap.size w Y := by rw [← hY]; exact (Below.refl _ _).drew
  have hP := h.upto BY
  have c0 := hP.blk.cell 0 _ rfl
  have c3 := hP.blk.cell 3 _ rfl
  have hk : (ks L).length = L.length := by simp
  obtain ⟨ad, n, cap, hov, hn⟩ : ∃ ad n cap, ov = .slice ad n cap ∧ n = L.length := by
    rcases h.ord.slice with ⟨e, e0⟩ | ⟨g, cap, e, -⟩
    · exact ⟨_, _, _, e, by rw [← hk, e0]; rfl⟩
    · exact ⟨_, _, _, e, hk⟩
  subst hov
  have HF := hide (show PcE w c m _ room ep L Y from ⟨_, F, hP, fun g e => .inl e, Turns.of_below BY⟩)
  rw [← hn] at hl
  have HY := hide hY
  clear h hP hk hn hY
  go_enter Try.func21, Try.ntmps21
  go_wp2_with fail
  refine wp_only ?_
  refine wp_region_z (fun wx : World => wx = Y) [] (by kernel_rfl) ?_
  rw [HY.out]
  refine zx 0 10 16 rfl (by kernel_rfl) rfl ?_
  iterate 9 (refine zxc rfl (by rfl) (fun wx hx => by subst hx; go_simp; rfl) ?_; simp only [zp])
  refine zxc (v := .bool true) rfl (by rfl) (fun wx hx => by subst hx; go_simp) ?_
  simp only [zp]
  refine zxn ?_
  refine anyZ_done (by kernel_rfl) ?_ _
  dsimp only [Only, Exit.then]
  go_wp2_with fail
  refine bodyPost_ret (results_none rfl _ _ _) rfl ?_
  exact ⟨⟨_, rfl⟩, HF.out⟩
set_option maxRecDepth 100000 in
set_option maxHeartbeats 4000000 in
theorem room_no {w : World} {c m : Nat} {ov : Value} {room ep : Int} {F : K6 → Value} {L : List En} (h : PC w c m ov room ep F L) (hl : ¬ (L.length : Int) < room) :
    Calls Try.prog 21 #[ptr c] w fun e w' => (∃ z, e = .returned z) ∧ PcE w c m ov room ep L.tail w' := by
  obtain ⟨Y, hY⟩ : ∃ Y, w.drew = Y := ⟨_, rfl⟩
  have BY : Below w.heap.size w Y := by rw [← hY]; exact (Below.refl _ _).drew
  obtain ⟨Y2, hY2⟩ : ∃ Y2, Y.drew = Y2 := ⟨_, rfl⟩
  have BY2 : Below w.heap.size w Y2 := by rw [← hY2]; exact BY.drew
  have hP := h.upto BY
  have hQ := h.upto BY2
  obtain ⟨x, r, rfl⟩ : ∃ x r, L = x :: r := by
    cases L with
    | nil => have := h.rm; have := h.le; simp at hl; omega
    | cons x r => exact ⟨x, r, rfl⟩
  have hk : (ks (x :: r)).length = (x :: r).length := by simp
  rcases h.ord.slice with ⟨e, e0⟩ | ⟨g, cap, rfl, hcap, hmax, hg⟩
  · simp at e0
  have hdel := fun W (hW : KR W (.slice (some ⟨g, 0, none⟩) (ks (x :: r)).length cap) (ks (x :: r))) => delete_first x.1 (ks r) g cap W hW (by have := h.rm; have := h.le; simp at this ⊢; omega)
  obtain ⟨W1, hr1, hm1, hg1⟩ := hQ.map.drop (q := x.1) (hQ.map.w6 x.1 (by simp))
  rw [show (ks (x :: r)).erase x.1 = ks r by simp] at hm1
  have hnd := hQ.map.nodup
  rw [show ks (x :: r) = x.1 :: ks r from rfl, List.nodup_cons] at hnd
  have TW1 : Turns (fun k => k = m) Y2 W1 := Turns.of_grown hg1 (fun k e => by simpa using e.symm)
  have hgc : g ≠ c := fun e => h.ord.notBk h.blk (by decide) (by rw [e]; rfl)
  have hgm : g ≠ m := fun e => h.ord.notMap h.map (by rw [e]; rfl)
  have hO1 : KR W1 (.slice (some ⟨g, 0, none⟩) (ks (x :: r)).length cap) (ks (x :: r)) := hQ.ord.kept TW1 (fun k e => by cases e; exact hgm)
  have hB1 : Bk W1 c 61 _ := hQ.blk.kept TW1 h.cm
  have hD : Calls Try.prog 24 #[.slice (some ⟨g, 0, none⟩) (ks (x :: r)).length cap, .int .i64 0, .int .i64 1] W1 (Deleted W1 g cap (ks r)) := hdel W1 hO1
  have c2 := hP.blk.cell 2 _ rfl
  have c3 := hP.blk.cell 3 _ rfl
  have c0 := hP.blk.cell 0 _ rfl
  have q2 := hQ.blk.cell 2 _ rfl
  have q3 := hQ.blk.cell 3 _ rfl
  have hkx : ∀ j u, (kCs x.1)[j]? = some u → Y2.cell? ⟨g, j, none⟩ = some u := fun j u hu => by
    have := World.ownsRow.cells hQ.ord (g := g) rfl j u (by
      have := rw_get kCs_len (ks (x :: r)) 0 x.1 j rfl (by rw [← kCs_len x.1]; exact (List.getElem?_eq_some_iff.1 hu).1)
      rw [Nat.zero_mul, Nat.zero_add] at this
      rw [this]; exact hu)
    simpa [Addr.add_lit] using this
  have k0 := hkx 0 _ rfl
  have k1 := hkx 1 _ rfl
  have k2 := hkx 2 _ rfl
  have k3 := hkx 3 _ rfl
  have k4 := hkx 4 _ rfl
  have k5 := hkx 5 _ rfl
  have d3 := hB1.cell 3 _ rfl
  have g3 := hB1.frozen 3
  have FIN : ∀ W2, Deleted W1 g cap (ks r) (.returned (.slice (some ⟨g, 0, none⟩) (ks r).length cap)) W2 → PcE w c m (.slice (some ⟨g, 0, none⟩) (ks (x :: r)).length cap) room ep r (W2.setCell ⟨c, 3, none⟩ (.slice (some ⟨g, 0, none⟩) (ks r).length cap)) ∧ W2.cell? ⟨c, 3, none⟩ = some (.slice (some ⟨g, 0, none⟩) (ks (x :: r)).length cap) ∧ W2.frozen? ⟨c, 3, none⟩ = false := fun W2 hd => by
    obtain ⟨-, hr2, hg2⟩ := hd
    have TW2 : Turns (fun k => k = g) W1 W2 := Turns.of_grown hg2 (fun k e => by simpa using e.symm)
    have hB2 := hB1.kept TW2 (fun e => hgc e.symm)
    have TS : Turns (fun k => k = c) W2 (W2.setCell ⟨c, 3, none⟩ (.slice (some ⟨g, 0, none⟩) (ks r).length cap)) := Turns.set (S := fun k => k = c) W2 rfl _
    have TA : Turns (PB c m (.slice (some ⟨g, 0, none⟩) (ks (x :: r)).length cap)) w (W2.setCell ⟨c, 3, none⟩ (.slice (some ⟨g, 0, none⟩) (ks r).length cap)) :=
      (Turns.of_below BY2).trans ((TW1.mono (fun k _ e => .inl (.inr (.inl e)))).trans ((TW2.mono (fun k _ e => .inl (.inl (.inr (.inr (by rw [e]; rfl)))))).trans (TS.mono (fun k _ e => .inl (.inl (.inl (.inl e)))))))
    refine ⟨⟨_, fput F x.1 zW, ⟨hB2.set 3 _, hr2.kept TS (fun k e => by cases e; exact hgc), (hm1.kept TW2 (fun e => hgm e.symm)).kept TS (fun e => h.cm e.symm), fun y hy => ?_, fun y hy => h.fit y (List.mem_cons_of_mem _ hy), h.rm, by have := h.le; simp at this ⊢; omega⟩, fun k e => .inl (by cases e; rfl), TA⟩, hB2.cell 3 _ rfl, hB2.frozen 3⟩
    obtain ⟨v, e1, e2⟩ := h.way y (List.mem_cons_of_mem _ hy)
    refine ⟨v, ?_, e2.stay TA (h.tags (fun _ hh => hh))⟩
    unfold fput
    rw [if_neg (fun e => hnd.1 (by rw [← e]; exact mem_ks hy)), e1]
  have HF := hide FIN
  have HR := hide hr1
  have HY := hide hY
  have HY2 := hide hY2
  obtain ⟨n, hn⟩ : ∃ n, (ks (x :: r)).length = n := ⟨_, rfl⟩
  have hn1 : 0 < n := by rw [← hn]; simp
  have hl2 : ¬ (n : Int) < room := by rw [← hn, hk]; exact hl
  rw [hn] at c3 q3 d3 hD
  have HD := hide hD
  have HN := hide hn
  clear hD h hP hQ hdel hm1 hg1 hnd TW1 hgc hgm hO1 hB1 hkx FIN hr1 hY hY2 hk hl hn BY BY2 hcap hmax
  go_enter Try.func21, Try.ntmps21
  go_wp2_with fail
  refine wp_only ?_
  refine wp_region_z (fun wx : World => wx = Y) [] (by kernel_rfl) ?_
  rw [HY.out]
  refine zx 0 10 16 rfl (by kernel_rfl) rfl ?_
  iterate 9 (refine zxc rfl (by rfl) (fun wx hx => by subst hx; go_simp; rfl) ?_; simp only [zp])
  refine zxc (v := .bool false) rfl (by rfl) (fun wx hx => by subst hx; go_simp) ?_
  simp only [zp]
  refine zxn ?_
  refine anyZ_done (by kernel_rfl) ?_ _
  dsimp only [Only, Exit.then]
  clear c0
  go_wp2_with fail
  refine wp_only ?_
  refine wp_region_z (fun wx : World => wx = Y2) [10] (by kernel_rfl) ?_
  rw [HY2.out]
  refine zx 0 10 16 rfl (by kernel_rfl) rfl ?_
  iterate 8 (refine zxc rfl (by rfl) (fun wx hx => by subst hx; go_simp; rfl) ?_; simp only [zp])
  refine zxc rfl (by rfl) (fun wx hx => by subst hx; go_simp; rfl) ?_
  simp only [zp]
  refine zxc (v := kv x.1) rfl (by rfl) (fun wx hx => by subst hx; go_simp) ?_
  simp only [zp]
  refine zxn ?_
  refine zq 10 (by kernel_rfl) rfl rfl (run_del rfl rfl rfl (HR.out _)) (fun h => absurd (by decide) h) ?_
  refine anyZ_done (by kernel_rfl) ?_ _
  dsimp only [Only, Exit.then]
  clear k0 k1 k2 k3 k4 k5 c2 c3 q2 q3
  go_wp2_with fail
  refine HD.out.mono ?_
  rintro e1 W2 hd
  obtain ⟨rfl, -⟩ := id hd
  obtain ⟨hf, e3, f3⟩ := HF.out W2 hd
  rw [show (ks r).length = r.length by simp] at hf
  have HG := hide hf
  clear hf hd d3 g3
  go_wp2_with fail
  go_end0
  exact ⟨⟨_, rfl⟩, HG.out⟩
theorem room_is {w : World} {c m : Nat} {ov : Value} {room ep : Int} {F : K6 → Value} {L : List En} (h : PC w c m ov room ep F L) :
    Calls Try.prog 21 #[ptr c] w fun e w' => (∃ z, e = .returned z) ∧ PcE w c m ov room ep (mkr room L) w' := by
  unfold mkr
  split
  · rename_i hl
    exact room_yes h hl
  · rename_i hl
    exact room_no h hl
end Go.Proofs.Ytihjmgdihpeffaa
