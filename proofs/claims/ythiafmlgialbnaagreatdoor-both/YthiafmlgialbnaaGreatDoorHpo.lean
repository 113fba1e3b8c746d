/-
  Push. Pop.
-/
import Derived.Test.YthiafmlgialbnaaGreatDoorHlift
import Derived.Maps.AppendAt
namespace Go.Proofs.YthiafmlgialbnaaGreatDoor
open Go.RowKit
set_option linter.unusedVariables false
set_option linter.unusedSimpArgs false
def z141 : Value := .agg #[.int .i64 0, .int .i64 0, .int .i64 0, .int .i64 0, .int .i64 0]
theorem info141 : (Tryz.prog.info? 256).map (fun i => (i.zero, i.size, i.bytes)) = some (some z141, 5, 40) := by kernel_rfl
theorem one_it {r : It} : ∀ u ∈ r.cs, u.oneCell' = true := by
  intro u hu
  simp only [It.cs, List.mem_cons, List.not_mem_nil, or_false] at hu
  rcases hu with rfl | rfl | rfl | rfl | rfl <;> rfl
theorem it_new (w : World) (r : It) : ∀ j u, r.cs[j]? = some u → (w.alloc (.cells #[.int .i64 r.x, .int .i64 r.y, .int .i64 r.c, .int .i64 r.f, .int .i64 r.p] 256)).cell? ((⟨w.heap.size, 0, none⟩ : Addr).add j) = some u := by
  intro j u hu
  rw [Addr.add_lit, Nat.zero_add, cell_of_row _ w.heap.size j _ _ _ (heap_alloc_new w _)]
  simpa [It.cs] using hu
theorem run_append {P : Program} {ev : Operand → Value} {o : Oper} {w w' : World} {s x : Operand} {t : TypeId} {v xv v' : Value} (ho : o.op = .call { callee := .builtin .append, args := #[s, x], argTypes := #[t, t] })
    (hs : ev s = v) (hx : ev x = xv) (hr : (Builtin.append_ #[t, t] o.type #[v, xv]).run P w = .ok v' w') : (execOp ev o).run P w = .ok (.value v') w' := by
  unfold execOp
  simp only [ho, resolve, invoke, builtin, Sem.run_bind, Sem.run_pure, Result.andThen_ok, List.map_toArray, List.map_cons, List.map_nil, hs, hx, hr]
theorem run_hf2 {ev : Operand → Value} {o : Oper} {w : World} {x : Operand} {b : Nat} (ho : o.op = .fieldAddr 247 x 2) (hx : ev x = .pointer (some ⟨b, 0, none⟩)) : (execOp ev o).run Tryz.prog w = .ok (.value (.pointer (some ⟨b, 2, none⟩))) w := by
  unfold execOp; rw [ho]; simp only [hx]; go_simp
theorem run_i {ev : Operand → Value} {o : Oper} {w : World} {x : Operand} {ad : Addr} {n : Int} (ho : o.op = .load 3 x) (hx : ev x = .pointer (some ad)) (h0 : w.cell? ad = some (.int .i64 n)) : (execOp ev o).run Tryz.prog w = .ok (.value (.int .i64 n)) w := by
  unfold execOp; rw [ho]; simp only [hx]; go_simp
theorem run_mkit {ev : Operand → Value} {o : Oper} {w : World} {x1 x2 : Operand} {x y c f n : Int} (ho : o.op = .build 256 #[(0, x1), (1, x2)]) (h1 : ev x1 = rv x y c f) (h2 : ev x2 = .int .i64 n) : (execOp ev o).run Tryz.prog w = .ok (.value (⟨x, y, c, f, n⟩ : It).v) w := by
  unfold execOp; rw [ho]; simp only [List.map_toArray, List.map_cons, List.map_nil, h1, h2]; go_simp
theorem run_one {ev : Operand → Value} {o : Oper} {w : World} {x1 : Operand} {t : It} (ho : o.op = .buildSlice 245 1 #[(0, x1)]) (h1 : ev x1 = t.v) : (execOp ev o).run Tryz.prog w = .ok (.value (.slice (some ⟨w.heap.size, 0, none⟩) 1 1)) (w.alloc (.cells #[.int .i64 t.x, .int .i64 t.y, .int .i64 t.c, .int .i64 t.f, .int .i64 t.p] 256)) := by
  unfold execOp; rw [ho]; simp only [List.map_toArray, List.map_cons, List.map_nil, h1]; go_simp
theorem run_setrow {ev : Operand → Value} {o : Oper} {w : World} {ad : Addr} {x t : Operand} {v v0 : Value} (ho : o.op = .store 245 x t) (hx : ev x = .pointer (some ad)) (ht : ev t = v) (hv : ∃ av n c, v = .slice av n c) (hc : w.cell? ad = some v0) (hf : w.frozen? ad = false) :
    (execOp ev o).run Tryz.prog w = .ok .skip (w.setCell ad v) := by
  obtain ⟨av, n, c, rfl⟩ := hv
  unfold execOp
  rw [ho]
  simp only [hx, ht]
  go_simp
/-- A heap in memory, with the values S that it holds. -/
def Hs (w : World) (b : Nat) (v : Value) (n : Int) (S : List It) : Prop := ∃ l, Hp w b v n false ∧ Its w v l ∧ Heap l ∧ l.Perm S
theorem Hs.kept {w w' : World} {b : Nat} {v : Value} {n : Int} {S : List It} {T : Nat → Prop} (h : Hs w b v n S) (ht : Turns T w w') (h1 : ¬ T b) (h2 : ∀ k, v.ownBlock = some k → ¬ T k) : Hs w' b v n S := by
  obtain ⟨l, a1, a2, a3, a4⟩ := h
  exact ⟨l, a1.kept ht h1, a2.kept ht h2, a3, a4⟩
theorem Hs.upto {w w' : World} {b : Nat} {v : Value} {n : Int} {S : List It} (h : Hs w b v n S) (hb : Below w.heap.size w w') : Hs w' b v n S := h.kept (T := NoB) (Turns.of_below hb) id (fun _ _ => id)
/-- What Push leaves. -/
def Pushed (w : World) (b : Nat) (v : Value) (n : Int) (S : List It) (t : It) (w' : World) : Prop :=
  ∃ v', Hs w' b v' (n + 1) (t :: S) ∧ Turns (fun k => k = b ∨ v.ownBlock = some k) w w' ∧ ∀ k, v'.ownBlock = some k → v.ownBlock = some k ∨ w.heap.size ≤ k
set_option maxRecDepth 100000 in
set_option maxHeartbeats 2000000 in
theorem push_is (b : Nat) (v : Value) (n : Int) (S : List It) (x y c f : Int) (w : World) (h : Hs w b v n S) (hn : 0 ≤ n ∧ n + 1 ≤ 9223372036854775807) (hlen : (S.length + 1) * 40 ≤ 140737488355328) :
    Calls Tryz.prog 195 #[ptr b, rv x y c f] w fun e w' => e = .returned (.tuple #[]) ∧ Pushed w b v n S ⟨x, y, c, f, n⟩ w' := by
  obtain ⟨l, hp, hv, hH, hS⟩ := h
  have hll : l.length = S.length := hS.length_eq
  obtain ⟨X, hX⟩ : ∃ X, w.alloc (.cells #[.int .i64 x, .int .i64 y, .int .i64 c, .int .i64 f] 184) = X := ⟨_, rfl⟩
  have B0 : Below w.heap.size w X := hX ▸ box1 _ _
  have F0 : Four X w.heap.size x y c f := by rw [← hX]; simp [Four, go_sem]
  have hpX := hp.upto B0
  have hvX := hv.upto B0
  have hlt := hp.lt
  have hne := hpX.ne_row hvX (by decide)
  have hvw : ∀ k, v.ownBlock = some k → k < w.heap.size := fun k e => by
    rcases hv.2 with ⟨rfl, _⟩ | ⟨g, cap, cur, rfl, _, hg, _⟩
    · simp [Value.ownBlock] at e
    · simp [Value.ownBlock] at e; subst e; exact (Array.getElem?_eq_some_iff.1 hg).1
  have HT := hide (turns_any b v n false X hpX)
  obtain ⟨fi, hf, hz, h5, h40⟩ := info_parts info141
  -- the row with one more
  obtain ⟨Y1, hY1⟩ : ∃ Y1, X.drew.alloc (.cells #[.int .i64 x, .int .i64 y, .int .i64 c, .int .i64 f, .int .i64 n] 256) = Y1 := ⟨_, rfl⟩
  have B1 : Below X.heap.size X Y1 := by rw [← hY1]; exact bt (Below.refl _ _).drew (box1 _ _)
  have hv1 := hvX.upto B1
  have hnew : ∀ j u, (⟨x, y, c, f, n⟩ : It).cs[j]? = some u → Y1.cell? ((⟨X.drew.heap.size, 0, none⟩ : Addr).add j) = some u := by rw [← hY1]; exact it_new X.drew ⟨x, y, c, f, n⟩
  obtain ⟨v3, w3, r3, o3, g3, -, l3⟩ := run_append_own_at (P := Tryz.prog) Y1 0 245 245 256 fi z141 5 40 Tryz.underlying245 hf hz h5 h40 rfl (by decide) v l.length _ hv1 ⟨X.drew.heap.size, 0, none⟩ 1 1 (⟨x, y, c, f, n⟩ : It).cs rfl hnew one_it (by unfold maxLen; omega) (by omega) (Nat.zero_le _)
  have hr3 : Its w3 v3 (l ++ [⟨x, y, c, f, n⟩]) := by simpa [Its] using o3
  have T1 : Turns (fun k => v.ownBlock = some k) X w3 := (Turns.of_below B1).trans ((Turns.of_grown (S := fun k => v.ownBlock = some k) g3 (fun k e => e)).mono (fun k _ e => .inl e))
  have hp3 := hpX.kept T1 hne
  have hsl3 : ∃ av n c, v3 = .slice av n c := by obtain ⟨a3, c3, e3, -⟩ := hr3.slice; exact ⟨_, _, _, e3⟩
  have hp4 := hp3.set1 v3
  have hp5 := hp4.set2 (n + 1)
  have T4 : Turns (fun j => j = b) w3 ((w3.setCell ⟨b, 1, none⟩ v3).setCell ⟨b, 2, none⟩ (.int .i64 (n + 1))) :=
    (Turns.set (S := fun j => j = b) w3 (p := ⟨b, 1, none⟩) rfl _).trans ((Turns.set (S := fun j => j = b) _ (p := ⟨b, 2, none⟩) rfl _).mono (fun _ _ e => .inl e))
  have hr5 := hr3.kept T4 (fun j e q => by subst q; exact hp3.ne_row hr3 (by decide) e)
  have hl5 : (l ++ [(⟨x, y, c, f, n⟩ : It)]).length - 1 = l.length := by simp
  have HL := hide (lift_is b v3 (n + 1) (l ++ [⟨x, y, c, f, n⟩]) _ hp5 hr5 (by simp) (by rw [hl5]; exact Low.push hH ⟨x, y, c, f, n⟩))
  have TW : Turns (fun j => j = b ∨ v.ownBlock = some j) w ((w3.setCell ⟨b, 1, none⟩ v3).setCell ⟨b, 2, none⟩ (.int .i64 (n + 1))) :=
    ((Turns.of_below (S := fun j => j = b ∨ v.ownBlock = some j) B0).trans (T1.mono (fun _ _ e => .inl (.inr e)))).trans (T4.mono (fun _ _ e => .inl (.inl e)))
  have hown3 : ∀ k, v3.ownBlock = some k → v.ownBlock = some k ∨ w.heap.size ≤ k := fun k e => by
    rcases l3 with q | q
    · exact .inl (q ▸ e)
    · rw [q] at e; cases e
      have := (bt B0 B1).size
      exact .inr this
  have HEn : Hid (∀ l' w', Heap l' → Kp ((w3.setCell ⟨b, 1, none⟩ v3).setCell ⟨b, 2, none⟩ (.int .i64 (n + 1))) b v3 (n + 1) (l ++ [⟨x, y, c, f, n⟩]) l' w' → Pushed w b v n S ⟨x, y, c, f, n⟩ w') := hide (fun l' w' hh hk => by
    refine ⟨v3, ⟨l', hk.2.2.1, hk.1, hh, hk.2.1.trans ((List.perm_append_comm).trans (List.Perm.cons _ hS))⟩, TW.trans (hk.2.2.2.mono (fun k _ e => ?_)), hown3⟩
    rcases hown3 k e with q | q
    · exact .inl (.inr q)
    · exact .inr q)
  obtain ⟨va, vc, hve, -⟩ := hv.slice
  subst hve
  have HS : Hid ((fun wx : World => wx.cell? ⟨b, 1, none⟩ = some (.slice va l.length vc) ∧ wx.cell? ⟨b, 2, none⟩ = some (.int .i64 n) ∧ Four wx w.heap.size x y c f) X.drew) := hide ⟨hpX.c 1, hpX.c 2, F0⟩
  have HS1 : Hid ((fun wx : World => wx.cell? ⟨b, 1, none⟩ = some (.slice va l.length vc) ∧ wx.cell? ⟨b, 2, none⟩ = some (.int .i64 n) ∧ Four wx w.heap.size x y c f) Y1) := hide ⟨(hpX.upto B1).c 1, (hpX.upto B1).c 2, F0.kept B1⟩
  have HS3 : Hid ((fun wx : World => wx.cell? ⟨b, 1, none⟩ = some (.slice va l.length vc) ∧ wx.cell? ⟨b, 2, none⟩ = some (.int .i64 n) ∧ Four wx w.heap.size x y c f) w3) := hide ⟨hp3.c 1, hp3.c 2, F0.turned T1 (fun e => by have := hvw _ e; omega)⟩
  have k1 : w3.cell? ⟨b, 1, none⟩ = some (.slice va l.length vc) := hp3.c 1
  have f1 := hp3.f 1
  have k2 : (w3.setCell ⟨b, 1, none⟩ v3).cell? ⟨b, 2, none⟩ = some (.int .i64 n) := hp4.c 2
  have f2 := hp4.f 2
  have HX := hide hX
  have HY1 := hide hY1
  have HA := hide r3
  clear hX hY1 r3 o3 g3 l3 hr3 T1 hp3 hp4 hp5 T4 hr5 TW hown3 hnew hv1 B1 F0 hpX hvX hv hp B0 hf hz h5 h40
  go_enter Tryz.func195, Tryz.ntmps195
  go_wp2_with (rw [HX.out])
  refine HT.out.mono ?_
  rintro e w1 ⟨rfl, hw1⟩
  have hw2 := hw1.symm
  clear hw1
  subst hw2
  go_wp2_with fail
  refine wp_only ?_
  refine wp_region_z (fun wx : World => wx.cell? ⟨b, 1, none⟩ = some (.slice va l.length vc) ∧ wx.cell? ⟨b, 2, none⟩ = some (.int .i64 n) ∧ Four wx w.heap.size x y c f) [15] (by kernel_rfl) ?_
  refine anyZ_take 0 8 (v := ptr b) rfl (by kernel_rfl) (fun _ _ _ h => h.elim) (Or.inl ⟨by rfl, fun wx hx => run_mv (by rfl) (by rfl)⟩) HS.out ?_
  try simp only [Act.put, List.getElem_toArray, List.getElem_cons_zero, List.getElem_cons_succ, List.setIfInBounds_toArray, List.set_cons_zero, List.set_cons_succ]
  refine anyZ_take 1 8 (v := ptr b) rfl (by kernel_rfl) (fun _ _ _ h => h.elim) (Or.inl ⟨by rfl, fun wx hx => run_mv (by rfl) (by rfl)⟩) HS.out ?_
  try simp only [Act.put, List.getElem_toArray, List.getElem_cons_zero, List.getElem_cons_succ, List.setIfInBounds_toArray, List.set_cons_zero, List.set_cons_succ]
  refine anyZ_take 2 8 (v := ptr b) rfl (by kernel_rfl) (fun _ _ _ h => h.elim) (Or.inl ⟨by rfl, fun wx hx => run_nc (by rfl) (by rfl)⟩) HS.out ?_
  try simp only [Act.put, List.getElem_toArray, List.getElem_cons_zero, List.getElem_cons_succ, List.setIfInBounds_toArray, List.set_cons_zero, List.set_cons_succ]
  refine anyZ_take 3 8 (v := .pointer (some ⟨b, 1, none⟩)) rfl (by kernel_rfl) (fun _ _ _ h => h.elim) (Or.inl ⟨by rfl, fun wx hx => run_hf1 (by rfl) (by rfl)⟩) HS.out ?_
  try simp only [Act.put, List.getElem_toArray, List.getElem_cons_zero, List.getElem_cons_succ, List.setIfInBounds_toArray, List.set_cons_zero, List.set_cons_succ]
  refine anyZ_take 4 8 (v := .slice va l.length vc) rfl (by kernel_rfl) (fun _ _ _ h => h.elim) (Or.inl ⟨by rfl, fun wx hx => run_row (by rfl) (by rfl) hx.1⟩) HS.out ?_
  try simp only [Act.put, List.getElem_toArray, List.getElem_cons_zero, List.getElem_cons_succ, List.setIfInBounds_toArray, List.set_cons_zero, List.set_cons_succ]
  refine anyZ_take 5 8 (v := rv x y c f) rfl (by kernel_rfl) (fun _ _ _ h => h.elim) (Or.inl ⟨by rfl, fun wx hx => run_rv (by rfl) (by rfl) hx.2.2.1.1 hx.2.2.1.2.1 hx.2.2.1.2.2.1 hx.2.2.1.2.2.2⟩) HS.out ?_
  try simp only [Act.put, List.getElem_toArray, List.getElem_cons_zero, List.getElem_cons_succ, List.setIfInBounds_toArray, List.set_cons_zero, List.set_cons_succ]
  refine anyZ_take 6 8 (v := ptr b) rfl (by kernel_rfl) (fun _ _ _ h => h.elim) (Or.inl ⟨by rfl, fun wx hx => run_mv (by rfl) (by rfl)⟩) HS.out ?_
  try simp only [Act.put, List.getElem_toArray, List.getElem_cons_zero, List.getElem_cons_succ, List.setIfInBounds_toArray, List.set_cons_zero, List.set_cons_succ]
  refine anyZ_take 7 8 (v := ptr b) rfl (by kernel_rfl) (fun _ _ _ h => h.elim) (Or.inl ⟨by rfl, fun wx hx => run_nc (by rfl) (by rfl)⟩) HS.out ?_
  try simp only [Act.put, List.getElem_toArray, List.getElem_cons_zero, List.getElem_cons_succ, List.setIfInBounds_toArray, List.set_cons_zero, List.set_cons_succ]
  refine anyZ_take 8 8 (v := .pointer (some ⟨b, 2, none⟩)) rfl (by kernel_rfl) (fun _ _ _ h => h.elim) (Or.inl ⟨by rfl, fun wx hx => run_hf2 (by rfl) (by rfl)⟩) HS.out ?_
  try simp only [Act.put, List.getElem_toArray, List.getElem_cons_zero, List.getElem_cons_succ, List.setIfInBounds_toArray, List.set_cons_zero, List.set_cons_succ]
  refine anyZ_take 9 8 (v := .int .i64 n) rfl (by kernel_rfl) (fun _ _ _ h => h.elim) (Or.inl ⟨by rfl, fun wx hx => run_i (by rfl) (by rfl) hx.2.1⟩) HS.out ?_
  try simp only [Act.put, List.getElem_toArray, List.getElem_cons_zero, List.getElem_cons_succ, List.setIfInBounds_toArray, List.set_cons_zero, List.set_cons_succ]
  refine anyZ_take 10 8 (v := (⟨x, y, c, f, n⟩ : It).v) rfl (by kernel_rfl) (fun _ _ _ h => h.elim) (Or.inl ⟨by rfl, fun wx hx => run_mkit (by rfl) (by rfl) (by rfl)⟩) HS.out ?_
  try simp only [Act.put, List.getElem_toArray, List.getElem_cons_zero, List.getElem_cons_succ, List.setIfInBounds_toArray, List.set_cons_zero, List.set_cons_succ]
  refine anyZ_ready (rs := [11]) (by kernel_rfl) (by simp) ?_
  refine readyZ.cons rfl rfl (run_one (t := ⟨x, y, c, f, n⟩) (by rfl) (by rfl)) (fun _ => by rw [HY1.out]; exact HS1.out) ?_ readyZ.nil
  rw [HY1.out]
  try simp only [Act.put, List.getElem_toArray, List.getElem_cons_zero, List.getElem_cons_succ, List.setIfInBounds_toArray, List.set_cons_zero, List.set_cons_succ]
  refine anyZ_ready (rs := [12]) (by kernel_rfl) (by simp) ?_
  refine readyZ.cons rfl rfl (run_append (by rfl) (by rfl) (by rfl) HA.out) (fun _ => HS3.out) ?_ readyZ.nil
  try simp only [Act.put, List.getElem_toArray, List.getElem_cons_zero, List.getElem_cons_succ, List.setIfInBounds_toArray, List.set_cons_zero, List.set_cons_succ]
  refine anyZ_take 13 8 (v := ptr b) rfl (by kernel_rfl) (fun _ _ _ h => h.elim) (Or.inl ⟨by rfl, fun wx hx => run_nc (by rfl) (by rfl)⟩) HS3.out ?_
  try simp only [Act.put, List.getElem_toArray, List.getElem_cons_zero, List.getElem_cons_succ, List.setIfInBounds_toArray, List.set_cons_zero, List.set_cons_succ]
  refine anyZ_take 14 8 (v := .pointer (some ⟨b, 1, none⟩)) rfl (by kernel_rfl) (fun _ _ _ h => h.elim) (Or.inl ⟨by rfl, fun wx hx => run_hf1 (by rfl) (by rfl)⟩) HS3.out ?_
  try simp only [Act.put, List.getElem_toArray, List.getElem_cons_zero, List.getElem_cons_succ, List.setIfInBounds_toArray, List.set_cons_zero, List.set_cons_succ]
  refine anyZ_ready (rs := [15]) (by kernel_rfl) (by simp) ?_
  refine readyZ.skip rfl rfl (run_setrow (by rfl) (by rfl) (by rfl) hsl3 k1 f1) (fun h => absurd (by decide) h) ?_ readyZ.nil
  try simp only [Act.put, List.getElem_toArray, List.getElem_cons_zero, List.getElem_cons_succ, List.setIfInBounds_toArray, List.set_cons_zero, List.set_cons_succ]
  refine anyZ_done (by kernel_rfl) ?_ _
  dsimp only [Only, Exit.then]
  go_wp2_with fail
  refine HL.out.mono ?_
  rintro e w5 ⟨rfl, l', hh, hk⟩
  have HQ := hide (HEn.out l' w5 hh hk)
  clear hh hk
  go_wp2_with fail
  go_end0
  exact ⟨rfl, HQ.out⟩
end Go.Proofs.YthiafmlgialbnaaGreatDoor
namespace Go.Proofs.YthiafmlgialbnaaGreatDoor
open Go.RowKit
set_option linter.unusedVariables false
set_option linter.unusedSimpArgs false
theorem Its.take {w : World} {g cap q : Nat} {l : List It} (h : Its w (.slice (some ⟨g, 0, none⟩) l.length cap) l) (hq : l.length = q + 1) : Its w (.slice (some ⟨g, 0, none⟩) q cap) (l.take q) := by
  have e : l.flatMap It.cs = (l.take q).flatMap It.cs ++ (l.drop q).flatMap It.cs := by rw [← List.flatMap_append, List.take_append_drop]
  have hl : (l.take q).length = q := by simp; omega
  unfold Its at h ⊢
  rw [hq, e] at h
  rw [hl]
  exact ownsRow_pop (by rw [It.cs_len, hl]) h
theorem pop_take {l : List It} {q : Nat} (t : It) (hq : l.length = q + 1) : ((l.set 0 (nth l q)).set q t).take q = pop l := by
  unfold pop
  rw [List.take_set_of_le (by omega), hq]
  simp
/-- What Pop leaves. -/
def Popped (w : World) (b : Nat) (v : Value) (n : Int) (S : List It) (t : It) (w' : World) : Prop :=
  ∃ v' S', S.Perm (t :: S') ∧ (∀ u ∈ S, lt u t = false) ∧ Hs w' b v' n S' ∧ Turns (fun k => k = b ∨ v.ownBlock = some k) w w' ∧ ∀ k, v'.ownBlock = some k → v.ownBlock = some k
theorem pop_no (b : Nat) (a : Option Addr) (cap : Nat) (n : Int) (q : Bool) (w : World) (h : Hp w b (.slice a 0 cap) n q) :
    Calls Tryz.prog 197 #[ptr b] w fun e w' => e = .returned (.tuple #[rv 0 0 0 0, .bool false]) ∧ Below w.heap.size w w' := by
  have HL := hide (hlen_any b a 0 cap n q _ (h.upto (box1 w (.cells #[.int .i64 0, .int .i64 0, .int .i64 0, .int .i64 0] 184))))
  go_enter Tryz.func197, Tryz.ntmps197
  go_wp2_with (go_at_call 208; refine HL.out.mono ?_; rintro e w1 ⟨rfl, rfl⟩)
  refine bodyPost_ret (v := .tuple #[rv 0 0 0 0, .bool false]) (by simp [results, Tryz.results197, go_sem]) rfl ⟨rfl, box2 _ _ _⟩
theorem run_i0 {ev : Operand → Value} {o : Oper} {w : World} {x : Operand} {g n cap : Nat} (ho : o.op = .indexAddr 245 x (.const (.int .i64 0))) (hx : ev x = .slice (some ⟨g, 0, none⟩) n cap) (hc : ev (.const (.int .i64 0)) = .int .i64 0) (hn : 0 < n) : (execOp ev o).run Tryz.prog w = .ok (.value (.pointer (some ⟨g, 0, none⟩))) w := by
  have h1 : (0 : Int) < (n : Nat) := by omega
  unfold execOp; rw [ho]; simp only [hx, hc]; go_simp
theorem run_if0 {ev : Operand → Value} {o : Oper} {w : World} {x : Operand} {g k : Nat} (ho : o.op = .fieldAddr 256 x 0) (hx : ev x = .pointer (some ⟨g, k, none⟩)) : (execOp ev o).run Tryz.prog w = .ok (.value (.pointer (some ⟨g, k, none⟩))) w := by
  unfold execOp; rw [ho]; simp only [hx]; go_simp
theorem run_len {ev : Operand → Value} {o : Oper} {w : World} {x : Operand} {a : Option Addr} {n c : Nat} (ho : o.op = .call { callee := .builtin .len, args := #[x], argTypes := #[245] }) (hx : ev x = .slice a n c) : (execOp ev o).run Tryz.prog w = .ok (.value (.int .i64 (n : Nat))) w := by
  unfold execOp
  simp only [ho, resolve, invoke, builtin, Sem.run_bind, Sem.run_pure, Result.andThen_ok, List.map_toArray, List.map_cons, List.map_nil, hx]
  go_simp
theorem run_pred {ev : Operand → Value} {o : Oper} {w : World} {x : Operand} {n q : Nat} (ho : o.op = .binOp .sub 3 x (.const (.int .i64 1)) 3) (hx : ev x = .int .i64 (n : Nat)) (hc : ev (.const (.int .i64 1)) = .int .i64 1) (hn : n = q + 1) (hb : n ≤ 1152921504606846976) : (execOp ev o).run Tryz.prog w = .ok (.value (.int .i64 (q : Nat))) w := by
  have h1 : ((n : Nat) : Int) - 1 = (q : Nat) := by omega
  have h2 : IntKind.i64.wrap ((q : Nat) : Int) = (q : Nat) := IntWalk.i64_in _ (by omega)
  unfold execOp; rw [ho]; simp only [hx, hc]; go_simp
theorem run_box85 {ev : Operand → Value} {o : Oper} {w : World} (ho : o.op = .alloc 184) : (execOp ev o).run Tryz.prog w = .ok (.value (.pointer (some ⟨w.heap.size, 0, none⟩))) (w.alloc (.cells #[.int .i64 0, .int .i64 0, .int .i64 0, .int .i64 0] 184)) := by
  unfold execOp; rw [ho]; go_simp
theorem run_put85 {ev : Operand → Value} {o : Oper} {w : World} {x y : Operand} {k : Nat} {p q c d p0 q0 c0 d0 : Int} (ho : o.op = .store 184 x y) (hx : ev x = .pointer (some ⟨k, 0, none⟩)) (hy : ev y = rv p q c d) (hc : Four w k p0 q0 c0 d0) :
    (execOp ev o).run Tryz.prog w = .ok .skip ((((w.setCell ⟨k, 0, none⟩ (.int .i64 p)).setCell ⟨k, 1, none⟩ (.int .i64 q)).setCell ⟨k, 2, none⟩ (.int .i64 c)).setCell ⟨k, 3, none⟩ (.int .i64 d)) := by
  obtain ⟨⟨h0, h1, h2, h3⟩, ⟨f0, f1, f2, f3⟩, -⟩ := hc
  unfold execOp; rw [ho]; simp only [hx, hy]; go_simp
theorem four_set {w : World} {k : Nat} {p q c d p0 q0 c0 d0 : Int} (h : Four w k p0 q0 c0 d0) : Four ((((w.setCell ⟨k, 0, none⟩ (.int .i64 p)).setCell ⟨k, 1, none⟩ (.int .i64 q)).setCell ⟨k, 2, none⟩ (.int .i64 c)).setCell ⟨k, 3, none⟩ (.int .i64 d)) k p q c d := by
  obtain ⟨⟨h0, h1, h2, h3⟩, ⟨f0, f1, f2, f3⟩, hz⟩ := h
  refine ⟨⟨?_, ?_, ?_, ?_⟩, ⟨?_, ?_, ?_, ?_⟩, ?_⟩ <;> simp [go_sem, h0, h1, h2, h3, f0, f1, f2, f3, hz]
theorem set4_turns (w : World) (g : Nat) (a b c d : Value) : Turns (fun j => j = g) w ((((w.setCell ⟨g, 0, none⟩ a).setCell ⟨g, 1, none⟩ b).setCell ⟨g, 2, none⟩ c).setCell ⟨g, 3, none⟩ d) :=
  (((Turns.set (S := fun j => j = g) w (p := ⟨g, 0, none⟩) rfl a).trans ((Turns.set (S := fun j => j = g) _ (p := ⟨g, 1, none⟩) rfl b).mono (fun _ _ h => .inl h))).trans ((Turns.set (S := fun j => j = g) _ (p := ⟨g, 2, none⟩) rfl c).mono (fun _ _ h => .inl h))).trans ((Turns.set (S := fun j => j = g) _ (p := ⟨g, 3, none⟩) rfl d).mono (fun _ _ h => .inl h))
def it0 : It := ⟨0, 0, 0, 0, 0⟩
/-- The last item at the first place, its own place empty, the row one shorter. -/
theorem pop_row (b : Nat) (n : Int) (l : List It) (g cap q L : Nat) (D : World) (hp : Hp D b (.slice (some ⟨g, 0, none⟩) L cap) n false) (hv : Its D (.slice (some ⟨g, 0, none⟩) L cap) l) (hL : l.length = L) (hq : L = q + 1) (hgb : g ≠ b) :
    ∃ (W1 W2 W3 : World) (u : It), put5 D g 0 (nth l q) = W1 ∧ ((((W1.setCell ⟨g, q * 5, none⟩ (.int .i64 0)).setCell ⟨g, q * 5 + 1, none⟩ (.int .i64 0)).setCell ⟨g, q * 5 + 2, none⟩ (.int .i64 0)).setCell ⟨g, q * 5 + 3, none⟩ (.int .i64 0)).setCell ⟨g, q * 5 + 4, none⟩ (.int .i64 0) = W2 ∧ W2.setCell ⟨b, 1, none⟩ (.slice (some ⟨g, 0, none⟩) q cap) = W3 ∧
      C5 D g 0 (nth l 0) ∧ C5 D g (q * 5) (nth l q) ∧ (∀ o, D.frozen? ⟨g, o, none⟩ = false) ∧ C5 W1 g (q * 5) u ∧ (∀ o, W1.frozen? ⟨g, o, none⟩ = false) ∧ W1.cell? ⟨b, 1, none⟩ = some (.slice (some ⟨g, 0, none⟩) L cap) ∧ W2.cell? ⟨b, 1, none⟩ = some (.slice (some ⟨g, 0, none⟩) L cap) ∧ W2.frozen? ⟨b, 1, none⟩ = false ∧
      Hp W3 b (.slice (some ⟨g, 0, none⟩) q cap) n false ∧ Its W3 (.slice (some ⟨g, 0, none⟩) q cap) (pop l) ∧ Turns (fun k => k = b ∨ k = g) D W3 := by
  subst hL
  have hl0 : 0 < l.length := by omega
  have a0 := hv.at (nth_get hl0)
  have aq := hv.at (nth_get (i := q) (by omega))
  have v1 := hv.set hl0 (nth l q)
  have T1 := put5_turns D g (0 * 5) (nth l q)
  have p1 := hp.kept T1 (fun e => hgb e.symm)
  have e1 : (l.set 0 (nth l q)).length = l.length := List.length_set
  have v1' : Its (put5 D g (0 * 5) (nth l q)) (.slice (some ⟨g, 0, none⟩) (l.set 0 (nth l q)).length cap) (l.set 0 (nth l q)) := by rw [e1]; exact v1
  have a1 := v1'.at (nth_get (i := q) (by rw [e1]; omega))
  have v2 := v1'.set (j := q) (by rw [e1]; omega) it0
  have T2 := put5_turns (put5 D g (0 * 5) (nth l q)) g (q * 5) it0
  have p2 := p1.kept T2 (fun e => hgb e.symm)
  have v2' : Its (put5 (put5 D g (0 * 5) (nth l q)) g (q * 5) it0) (.slice (some ⟨g, 0, none⟩) ((l.set 0 (nth l q)).set q it0).length cap) ((l.set 0 (nth l q)).set q it0) := by rw [List.length_set]; exact v2
  have v3 := v2'.take (q := q) (by rw [List.length_set, e1]; exact hq)
  rw [pop_take _ hq] at v3
  have p3 := p2.set1 (.slice (some ⟨g, 0, none⟩) q cap)
  have T3 : Turns (fun k => k = b) (put5 (put5 D g (0 * 5) (nth l q)) g (q * 5) it0) ((put5 (put5 D g (0 * 5) (nth l q)) g (q * 5) it0).setCell ⟨b, 1, none⟩ (.slice (some ⟨g, 0, none⟩) q cap)) := Turns.set (S := fun k => k = b) _ (p := ⟨b, 1, none⟩) rfl _
  have v4 := v3.kept T3 (fun k e c => by subst c; simp [Value.ownBlock] at e; exact hgb e)
  refine ⟨_, _, _, _, rfl, rfl, rfl, ?_, aq.1, a0.2, a1.1, a1.2, p1.c 1, p2.c 1, p2.f 1, p3, v4, ?_⟩
  · have := a0.1; simpa using this
  · have t1 : Turns (fun k => k = b ∨ k = g) D (put5 D g (0 * 5) (nth l q)) := (Turns.refl _ D).trans (T1.mono (fun k _ e => .inl (.inr e)))
    exact (t1.trans (T2.mono (fun k _ e => .inl (.inr e)))).trans (T3.mono (fun k _ e => .inl (.inl e)))
set_option maxRecDepth 100000 in
set_option maxHeartbeats 4000000 in
theorem pop_yes (b : Nat) (v : Value) (n : Int) (S : List It) (w : World) (h : Hs w b v n S) (hl : 0 < S.length) (hlen : S.length ≤ 1152921504606846976) :
    Calls Tryz.prog 197 #[ptr b] w fun e w' => ∃ t, e = .returned (.tuple #[rv t.x t.y t.c t.f, .bool true]) ∧ Popped w b v n S t w' := by
  obtain ⟨l, hp, hv, hH, hS⟩ := h
  have hll : l.length = S.length := hS.length_eq
  obtain ⟨q, hq⟩ : ∃ q, l.length = q + 1 := ⟨l.length - 1, by omega⟩
  have hl0 : 0 < l.length := by omega
  obtain ⟨X, hX⟩ : ∃ X, w.alloc (.cells #[.int .i64 0, .int .i64 0, .int .i64 0, .int .i64 0] 184) = X := ⟨_, rfl⟩
  have B0 : Below w.heap.size w X := hX ▸ box1 _ _
  have F0 : Four X w.heap.size 0 0 0 0 := by rw [← hX]; simp [Four, go_sem]
  have zX : X.heap.size = w.heap.size + 1 := by rw [← hX]; simp
  have hpX := hp.upto B0
  have hvX := hv.upto B0
  have hgb := hpX.ne_row hvX (by decide)
  obtain ⟨g, cap, rfl, hcap, hmax, hg⟩ := hv.form hl0
  have hpl := hp.lt
  have hgb' : g ≠ b := fun e => hgb (by rw [e]; rfl)
  have HL := hide (hlen_any b _ _ cap n false _ hpX)
  have HT := hide (turns_any b _ n false _ hpX)
  obtain ⟨t, ht⟩ : ∃ t, nth l 0 = t := ⟨_, rfl⟩
  obtain ⟨z, hz⟩ : ∃ z, nth l q = z := ⟨_, rfl⟩
  have hi0 : l[0]? = some t := by rw [← ht]; exact nth_get hl0
  have hiq : l[q]? = some z := by rw [← hz]; exact nth_get (by omega)
  have hne : ¬ ((l.length : Nat) : Int) = 0 := by omega
  have hneb : (((l.length : Nat) : Int) == 0) = false := beq_eq_false_iff_ne.2 hne
  have HKp : Hid (∀ wx, Below X.heap.size X wx → Hp wx b (.slice (some ⟨g, 0, none⟩) l.length cap) n false ∧ Its wx (.slice (some ⟨g, 0, none⟩) l.length cap) l ∧ Four wx w.heap.size 0 0 0 0 ∧ C5 wx g 0 t) := hide (fun wx hb => ⟨hpX.upto hb, hvX.upto hb, F0.kept hb, by have := ((hvX.upto hb).at hi0).1; simpa using this⟩)
  have HB0 := hide B0
  have HZ := hide zX
  have HTop : Hid (∀ u ∈ S, lt u t = false) := hide (fun u hu => by rw [← ht]; exact hH.least (hS.mem_iff.2 hu))
  have HX := hide hX
  clear hX B0 F0 hpX hvX hv hp zX hgb hi0 hiq hne hneb
  have HQ := hide hq
  generalize hL : l.length = L at HL HKp hq hl0 hcap hll ⊢
  have HLe := hide hL
  have hLz : ¬ L = 0 := by omega
  have hLd : decide (((L : Nat) : Int) = 0) = false := by simp; omega
  go_enter Tryz.func197, Tryz.ntmps197
  go_wp2_with (rw [HX.out])
  refine HL.out.mono ?_
  rintro e w1 ⟨rfl, hw1⟩
  have hw2 := hw1.symm
  clear hw1
  subst hw2
  go_wp2_with fail
  refine HT.out.mono ?_
  rintro e w1 ⟨rfl, hw1⟩
  have hw2 := hw1.symm
  clear hw1
  subst hw2
  go_wp2_with fail
  refine Code.wp_mono (Q := Only (fun a' Y => (Below X.heap.size X Y ∧ Four Y X.heap.size t.x t.y t.c t.f) ∧ ∃ u : Nat → Value, a' = { tmps := #[ptr b, undef, ptr w.heap.size, .bool false, u 4, ptr X.heap.size, .int .i64 (q : Nat), u 7, u 8, u 9, u 10, u 11, u 12, u 13, u 14, u 15, u 16, u 17, u 18, u 19, u 20, u 21, u 22, u 23, u 24, u 25, u 26, u 27, u 28, undef, undef, undef, undef, undef, undef, undef, undef, undef, undef, undef, undef, undef, undef, undef, undef, undef, undef, undef, undef, undef, undef, undef, undef, undef, undef, undef, undef, undef, undef, undef], defers := [] })) ?rest ?_
  case rest =>
    rintro (_ | _ | _ | _ | _) a' Y hO
    all_goals first | exact hO.elim | skip
    obtain ⟨⟨hB, hF⟩, u, rfl⟩ := hO
    obtain ⟨kp, kv, kf, -⟩ := HKp.out Y hB
    obtain ⟨W1, W2, W3, u5, e1, e2, e3, c0, cq, fz, c1, fz1, b1, b2, fb2, p3, v3, T3⟩ := pop_row b n l g cap q L Y.drew kp kv hL hq hgb'
    rw [hz] at e1 cq
    rw [ht] at c0
    have szY : w.heap.size < X.heap.size := by have := HZ.out; omega
    have szX := hB.size
    have f0 : Four W3 w.heap.size 0 0 0 0 := Four.turned (show Four Y.drew w.heap.size 0 0 0 0 from kf) T3 (by omega)
    have f1 : Four W3 X.heap.size t.x t.y t.c t.f := Four.turned (show Four Y.drew X.heap.size t.x t.y t.c t.f from hF) T3 (by omega)
    have TV : Turns (fun k => k = b ∨ (Value.slice (some ⟨g, 0, none⟩) L cap).ownBlock = some k) w W3 :=
      (Turns.of_below ((bt HB0.out hB).drew)).trans (T3.mono (fun k _ e => .inl (e.imp id (fun e => by rw [e]; rfl))))
    have HSk := hide (sink_is b _ n (pop l) W3 p3 v3 (by rw [pop_len]; omega) (High.pop hH))
    have HFin : Hid (∀ w4 l', Heap l' → Kp W3 b (.slice (some ⟨g, 0, none⟩) q cap) n (pop l) l' w4 → ∀ w5, Turns (fun k => k = w.heap.size) w4 w5 → Popped w b (.slice (some ⟨g, 0, none⟩) L cap) n S t w5) := hide fun w4 l' hH4 hk4 w5 ht5 => by
      obtain ⟨k1, k2, k3, k4⟩ := hk4
      refine ⟨.slice (some ⟨g, 0, none⟩) q cap, pop l, ?_, HTop.out, ⟨l', k3.kept ht5 (by omega), k1.kept ht5 (fun k e c => ?_), hH4, k2⟩, ?_, fun k e => e⟩
      · exact hS.symm.trans (ht ▸ pop_perm (by omega))
      · subst c; simp [Value.ownBlock] at e; omega
      · exact (TV.trans (k4.mono (fun k _ e => .inl (.inr e)))).trans (ht5.mono (fun k hk e => .inr (Nat.le_of_eq e.symm)))
    have HKB : Hid (∀ w4 l', Kp W3 b (.slice (some ⟨g, 0, none⟩) q cap) n (pop l) l' w4 → Four w4 w.heap.size 0 0 0 0 ∧ Four w4 X.heap.size t.x t.y t.c t.f) := hide fun w4 l' hk => ⟨f0.turned hk.2.2.2 (by simp [Value.ownBlock]; omega), f1.turned hk.2.2.2 (by simp [Value.ownBlock]; omega)⟩
    have HE1 := hide e1
    have HE2 := hide e2
    have HE3 := hide e3
    have hql : q < L := by omega
    have hqli : (q : Int) < (L : Nat) := by omega
    have hqc : (q : Int) ≤ (cap : Nat) := by omega
    have hS5 : (fun wx : World => wx.cell? ⟨b, 1, none⟩ = some (.slice (some ⟨g, 0, none⟩) L cap) ∧ C5 wx g (q * 5) z) Y.drew := ⟨kp.c 1, cq⟩
    obtain ⟨g0, g1, g2, g3, g4⟩ := c1
    have z0 := fz1 (q * 5)
    have z1 := fz1 (q * 5 + 1)
    have z2 := fz1 (q * 5 + 2)
    have z3 := fz1 (q * 5 + 3)
    have z4 := fz1 (q * 5 + 4)
    clear e1 e2 e3 p3 v3 T3 TV f0 f1 kp kv kf hH hS hL hq hll hlen fz1 HKp HTop HL HT HX HQ HLe hl hLz hLd hB hF
    dsimp only [Exit.then]
    rename_i a9
    refine a9 _ _ ?_
    clear a9
    go_wp2_with fail
    refine wp_only ?_
    refine wp_region_z (fun wx : World => wx.cell? ⟨b, 1, none⟩ = some (.slice (some ⟨g, 0, none⟩) L cap) ∧ C5 wx g (q * 5) z) [12] (by kernel_rfl) ?_
    refine anyZ_take 0 8 (v := ptr b) rfl (by kernel_rfl) (fun _ _ _ h => h.elim) (Or.inl ⟨by rfl, fun wx hx => run_mv (by rfl) (by rfl)⟩) hS5 ?_
    try simp only [Act.put, List.getElem_toArray, List.getElem_cons_zero, List.getElem_cons_succ, List.setIfInBounds_toArray, List.set_cons_zero, List.set_cons_succ]
    refine anyZ_take 1 8 (v := ptr b) rfl (by kernel_rfl) (fun _ _ _ h => h.elim) (Or.inl ⟨by rfl, fun wx hx => run_nc (by rfl) (by rfl)⟩) hS5 ?_
    try simp only [Act.put, List.getElem_toArray, List.getElem_cons_zero, List.getElem_cons_succ, List.setIfInBounds_toArray, List.set_cons_zero, List.set_cons_succ]
    refine anyZ_take 2 8 (v := .pointer (some ⟨b, 1, none⟩)) rfl (by kernel_rfl) (fun _ _ _ h => h.elim) (Or.inl ⟨by rfl, fun wx hx => run_hf1 (by rfl) (by rfl)⟩) hS5 ?_
    try simp only [Act.put, List.getElem_toArray, List.getElem_cons_zero, List.getElem_cons_succ, List.setIfInBounds_toArray, List.set_cons_zero, List.set_cons_succ]
    refine anyZ_take 3 8 (v := .slice (some ⟨g, 0, none⟩) L cap) rfl (by kernel_rfl) (fun _ _ _ h => h.elim) (Or.inl ⟨by rfl, fun wx hx => run_row (by rfl) (by rfl) hx.1⟩) hS5 ?_
    try simp only [Act.put, List.getElem_toArray, List.getElem_cons_zero, List.getElem_cons_succ, List.setIfInBounds_toArray, List.set_cons_zero, List.set_cons_succ]
    refine anyZ_take 4 8 (v := ptr b) rfl (by kernel_rfl) (fun _ _ _ h => h.elim) (Or.inl ⟨by rfl, fun wx hx => run_mv (by rfl) (by rfl)⟩) hS5 ?_
    try simp only [Act.put, List.getElem_toArray, List.getElem_cons_zero, List.getElem_cons_succ, List.setIfInBounds_toArray, List.set_cons_zero, List.set_cons_succ]
    refine anyZ_take 5 8 (v := ptr b) rfl (by kernel_rfl) (fun _ _ _ h => h.elim) (Or.inl ⟨by rfl, fun wx hx => run_nc (by rfl) (by rfl)⟩) hS5 ?_
    try simp only [Act.put, List.getElem_toArray, List.getElem_cons_zero, List.getElem_cons_succ, List.setIfInBounds_toArray, List.set_cons_zero, List.set_cons_succ]
    refine anyZ_take 6 8 (v := .pointer (some ⟨b, 1, none⟩)) rfl (by kernel_rfl) (fun _ _ _ h => h.elim) (Or.inl ⟨by rfl, fun wx hx => run_hf1 (by rfl) (by rfl)⟩) hS5 ?_
    try simp only [Act.put, List.getElem_toArray, List.getElem_cons_zero, List.getElem_cons_succ, List.setIfInBounds_toArray, List.set_cons_zero, List.set_cons_succ]
    refine anyZ_take 7 8 (v := .slice (some ⟨g, 0, none⟩) L cap) rfl (by kernel_rfl) (fun _ _ _ h => h.elim) (Or.inl ⟨by rfl, fun wx hx => run_row (by rfl) (by rfl) hx.1⟩) hS5 ?_
    try simp only [Act.put, List.getElem_toArray, List.getElem_cons_zero, List.getElem_cons_succ, List.setIfInBounds_toArray, List.set_cons_zero, List.set_cons_succ]
    refine anyZ_take 8 8 (v := .int .i64 (q : Nat)) rfl (by kernel_rfl) (fun _ _ _ h => h.elim) (Or.inl ⟨by rfl, fun wx hx => run_mv (by rfl) (by rfl)⟩) hS5 ?_
    try simp only [Act.put, List.getElem_toArray, List.getElem_cons_zero, List.getElem_cons_succ, List.setIfInBounds_toArray, List.set_cons_zero, List.set_cons_succ]
    refine anyZ_take 9 8 (v := .pointer (some ⟨g, q * 5, none⟩)) rfl (by kernel_rfl) (fun _ _ _ h => h.elim) (Or.inl ⟨by rfl, fun wx hx => run_iat (by rfl) (by rfl) (by rfl) hql⟩) hS5 ?_
    try simp only [Act.put, List.getElem_toArray, List.getElem_cons_zero, List.getElem_cons_succ, List.setIfInBounds_toArray, List.set_cons_zero, List.set_cons_succ]
    refine anyZ_take 10 8 (v := z.v) rfl (by kernel_rfl) (fun _ _ _ h => h.elim) (Or.inl ⟨by rfl, fun wx hx => run_item (by rfl) (by rfl) hx.2⟩) hS5 ?_
    try simp only [Act.put, List.getElem_toArray, List.getElem_cons_zero, List.getElem_cons_succ, List.setIfInBounds_toArray, List.set_cons_zero, List.set_cons_succ]
    refine anyZ_take 11 8 (v := .pointer (some ⟨g, 0, none⟩)) rfl (by kernel_rfl) (fun _ _ _ h => h.elim) (Or.inl ⟨by rfl, fun wx hx => run_i0 (by rfl) (by rfl) (by rfl) hl0⟩) hS5 ?_
    try simp only [Act.put, List.getElem_toArray, List.getElem_cons_zero, List.getElem_cons_succ, List.setIfInBounds_toArray, List.set_cons_zero, List.set_cons_succ]
    refine anyZ_ready (rs := [12]) (by kernel_rfl) (by simp) ?_
    refine readyZ.skip rfl rfl (run_put (by rfl) (by rfl) (by rfl) c0 fz) (fun h => absurd (by decide) h) ?_ readyZ.nil
    try simp only [Act.put, List.getElem_toArray, List.getElem_cons_zero, List.getElem_cons_succ, List.setIfInBounds_toArray, List.set_cons_zero, List.set_cons_succ]
    rw [HE1.out]
    refine anyZ_done (by kernel_rfl) ?_ _
    dsimp only [Only, Exit.then]
    go_wp2_with (first | rw [HE2.out] | rw [HE3.out])
    refine HSk.out.mono ?_
    rintro e w4 ⟨rfl, l4, hH4, hk4⟩
    obtain ⟨n0, n1⟩ := HKB.out w4 l4 hk4
    obtain ⟨⟨m0, m1, m2, m3⟩, ⟨m4, m5, m6, m7⟩, -⟩ := n0
    obtain ⟨⟨o0, o1, o2, o3⟩, -, -⟩ := n1
    have HFi := hide (HFin.out w4 l4 hH4 hk4 _ (set4_turns w4 w.heap.size (.int .i64 t.x) (.int .i64 t.y) (.int .i64 t.c) (.int .i64 t.f)))
    have hne2 : ¬ X.heap.size = w.heap.size := by omega
    clear hk4 hH4
    go_wp2_with fail
    refine bodyPost_ret (v := .tuple #[rv t.x t.y t.c t.f, .bool true]) (by simp [results, Tryz.results197, go_sem, rv, m0, m1, m2, m3]) rfl ?_
    exact ⟨t, rfl, HFi.out⟩
  have hvd := (HKp.out X.drew (Below.refl _ _).drew)
  have hS4 : (fun wx : World => wx.cell? ⟨b, 1, none⟩ = some (.slice (some ⟨g, 0, none⟩) L cap) ∧ C5 wx g 0 t) X.drew := ⟨hvd.1.c 1, hvd.2.2.2⟩
  refine wp_region_z (fun wx : World => wx.cell? ⟨b, 1, none⟩ = some (.slice (some ⟨g, 0, none⟩) L cap) ∧ C5 wx g 0 t) [] (by kernel_rfl) ?_
  refine anyZ_take 0 8 (v := ptr b) rfl (by kernel_rfl) (fun _ _ _ h => h.elim) (Or.inl ⟨by rfl, fun wx hx => run_mv (by rfl) (by rfl)⟩) hS4 ?_
  try simp only [Act.put, List.getElem_toArray, List.getElem_cons_zero, List.getElem_cons_succ, List.setIfInBounds_toArray, List.set_cons_zero, List.set_cons_succ]
  refine anyZ_take 1 8 (v := ptr b) rfl (by kernel_rfl) (fun _ _ _ h => h.elim) (Or.inl ⟨by rfl, fun wx hx => run_nc (by rfl) (by rfl)⟩) hS4 ?_
  try simp only [Act.put, List.getElem_toArray, List.getElem_cons_zero, List.getElem_cons_succ, List.setIfInBounds_toArray, List.set_cons_zero, List.set_cons_succ]
  refine anyZ_take 2 8 (v := .pointer (some ⟨b, 1, none⟩)) rfl (by kernel_rfl) (fun _ _ _ h => h.elim) (Or.inl ⟨by rfl, fun wx hx => run_hf1 (by rfl) (by rfl)⟩) hS4 ?_
  try simp only [Act.put, List.getElem_toArray, List.getElem_cons_zero, List.getElem_cons_succ, List.setIfInBounds_toArray, List.set_cons_zero, List.set_cons_succ]
  refine anyZ_take 3 8 (v := .slice (some ⟨g, 0, none⟩) L cap) rfl (by kernel_rfl) (fun _ _ _ h => h.elim) (Or.inl ⟨by rfl, fun wx hx => run_row (by rfl) (by rfl) hx.1⟩) hS4 ?_
  try simp only [Act.put, List.getElem_toArray, List.getElem_cons_zero, List.getElem_cons_succ, List.setIfInBounds_toArray, List.set_cons_zero, List.set_cons_succ]
  refine anyZ_take 4 8 (v := .pointer (some ⟨g, 0, none⟩)) rfl (by kernel_rfl) (fun _ _ _ h => h.elim) (Or.inl ⟨by rfl, fun wx hx => run_i0 (by rfl) (by rfl) (by rfl) hl0⟩) hS4 ?_
  try simp only [Act.put, List.getElem_toArray, List.getElem_cons_zero, List.getElem_cons_succ, List.setIfInBounds_toArray, List.set_cons_zero, List.set_cons_succ]
  refine anyZ_take 5 8 (v := .pointer (some ⟨g, 0, none⟩)) rfl (by kernel_rfl) (fun _ _ _ h => h.elim) (Or.inl ⟨by rfl, fun wx hx => run_if0 (by rfl) (by rfl)⟩) hS4 ?_
  try simp only [Act.put, List.getElem_toArray, List.getElem_cons_zero, List.getElem_cons_succ, List.setIfInBounds_toArray, List.set_cons_zero, List.set_cons_succ]
  refine anyZ_take 6 8 (v := rv t.x t.y t.c t.f) rfl (by kernel_rfl) (fun _ _ _ h => h.elim) (Or.inl ⟨by rfl, fun wx hx => run_rv (by rfl) (by rfl) hx.2.1 hx.2.2.1 hx.2.2.2.1 hx.2.2.2.2.1⟩) hS4 ?_
  try simp only [Act.put, List.getElem_toArray, List.getElem_cons_zero, List.getElem_cons_succ, List.setIfInBounds_toArray, List.set_cons_zero, List.set_cons_succ]
  refine anyZ_take 7 8 (v := ptr b) rfl (by kernel_rfl) (fun _ _ _ h => h.elim) (Or.inl ⟨by rfl, fun wx hx => run_mv (by rfl) (by rfl)⟩) hS4 ?_
  try simp only [Act.put, List.getElem_toArray, List.getElem_cons_zero, List.getElem_cons_succ, List.setIfInBounds_toArray, List.set_cons_zero, List.set_cons_succ]
  refine anyZ_take 8 8 (v := ptr b) rfl (by kernel_rfl) (fun _ _ _ h => h.elim) (Or.inl ⟨by rfl, fun wx hx => run_nc (by rfl) (by rfl)⟩) hS4 ?_
  try simp only [Act.put, List.getElem_toArray, List.getElem_cons_zero, List.getElem_cons_succ, List.setIfInBounds_toArray, List.set_cons_zero, List.set_cons_succ]
  refine anyZ_take 9 8 (v := .pointer (some ⟨b, 1, none⟩)) rfl (by kernel_rfl) (fun _ _ _ h => h.elim) (Or.inl ⟨by rfl, fun wx hx => run_hf1 (by rfl) (by rfl)⟩) hS4 ?_
  try simp only [Act.put, List.getElem_toArray, List.getElem_cons_zero, List.getElem_cons_succ, List.setIfInBounds_toArray, List.set_cons_zero, List.set_cons_succ]
  refine anyZ_take 10 8 (v := .slice (some ⟨g, 0, none⟩) L cap) rfl (by kernel_rfl) (fun _ _ _ h => h.elim) (Or.inl ⟨by rfl, fun wx hx => run_row (by rfl) (by rfl) hx.1⟩) hS4 ?_
  try simp only [Act.put, List.getElem_toArray, List.getElem_cons_zero, List.getElem_cons_succ, List.setIfInBounds_toArray, List.set_cons_zero, List.set_cons_succ]
  refine anyZ_take 11 8 (v := .int .i64 (L : Nat)) rfl (by kernel_rfl) (fun _ _ _ h => h.elim) (Or.inl ⟨by rfl, fun wx hx => run_len (by rfl) (by rfl)⟩) hS4 ?_
  try simp only [Act.put, List.getElem_toArray, List.getElem_cons_zero, List.getElem_cons_succ, List.setIfInBounds_toArray, List.set_cons_zero, List.set_cons_succ]
  refine anyZ_take 12 8 (v := .int .i64 (q : Nat)) rfl (by kernel_rfl) (fun _ _ _ h => h.elim) (Or.inl ⟨by rfl, fun wx hx => run_pred (by rfl) (by rfl) (by rfl) hq (by omega)⟩) hS4 ?_
  try simp only [Act.put, List.getElem_toArray, List.getElem_cons_zero, List.getElem_cons_succ, List.setIfInBounds_toArray, List.set_cons_zero, List.set_cons_succ]
  have hb13 : Below X.heap.size X (X.drew.alloc (.cells #[.int .i64 0, .int .i64 0, .int .i64 0, .int .i64 0] 184)) := bt (Below.refl _ _).drew (box1 _ _)
  have hF13 : Four (X.drew.alloc (.cells #[.int .i64 0, .int .i64 0, .int .i64 0, .int .i64 0] 184)) X.drew.heap.size 0 0 0 0 := by simp [Four, go_sem]
  have hv13 := HKp.out _ hb13
  refine anyZ_ready (rs := [13]) (by kernel_rfl) (by simp) ?_
  refine readyZ.cons rfl rfl (run_box85 (by rfl)) (fun _ => ⟨hv13.1.c 1, hv13.2.2.2⟩) ?_ readyZ.nil
  try simp only [Act.put, List.getElem_toArray, List.getElem_cons_zero, List.getElem_cons_succ, List.setIfInBounds_toArray, List.set_cons_zero, List.set_cons_succ]
  have t14 := set4_turns (X.drew.alloc (.cells #[.int .i64 0, .int .i64 0, .int .i64 0, .int .i64 0] 184)) X.drew.heap.size (.int .i64 t.x) (.int .i64 t.y) (.int .i64 t.c) (.int .i64 t.f)
  have hb14 := hb13.trans (t14.below (B := X.heap.size) (fun k e => by subst e; exact Nat.le_refl _) hb13.size)
  have hv14 := HKp.out _ hb14
  have hF14 := four_set (p := t.x) (q := t.y) (c := t.c) (d := t.f) hF13
  refine anyZ_ready (rs := [14]) (by kernel_rfl) (by simp) ?_
  refine readyZ.skip rfl rfl (run_put85 (by rfl) (by rfl) (by rfl) hF13) (fun _ => ⟨hv14.1.c 1, hv14.2.2.2⟩) ?_ readyZ.nil
  try simp only [Act.put, List.getElem_toArray, List.getElem_cons_zero, List.getElem_cons_succ, List.setIfInBounds_toArray, List.set_cons_zero, List.set_cons_succ]
  refine anyZ_ready (rs := [15]) (by kernel_rfl) (by simp) ?_
  refine readyZ.cons rfl rfl (run_as (v := .int .i64 (q : Nat)) (by rfl) (by rfl)) (fun _ => ⟨hv14.1.c 1, hv14.2.2.2⟩) ?_ readyZ.nil
  try simp only [Act.put, List.getElem_toArray, List.getElem_cons_zero, List.getElem_cons_succ, List.setIfInBounds_toArray, List.set_cons_zero, List.set_cons_succ]
  exact anyZ_done (by kernel_rfl) ⟨⟨hb14, hF14⟩, mkU _ _ _ rfl⟩ _
end Go.Proofs.YthiafmlgialbnaaGreatDoor
