/-
  A portal put into a sorted list; all clusters, row by row. A row of portals up to a place and from it on, appended to another row. All portals, by the document. PortalAll walked.
-/
import Derived.Test.YtkjogcnoaipniaaGreatDoorFin
import Derived.Test.YtkjogcnoaipniaaGreatDoorBetAll
namespace Go.Proofs.YtkjogcnoaipniaaGreatDoor
open Go.RowKit Go.Shelf
set_option linter.unusedVariables false
set_option linter.unusedSimpArgs false
def kltB (p q : Q4) : Bool := decide (p.y < q.y ∨ (p.y = q.y ∧ (p.x < q.x ∨ (p.x = q.x ∧ (p.b < q.b ∨ (p.b = q.b ∧ p.a < q.a))))))
theorem kltB_iff (p q : Q4) : kltB p q = true ↔ klt p q := by simp only [kltB, klt, decide_eq_true_eq]
theorem put_srt {M : List Q4} {t : Q4} {k : Nat} (hs : SrtP M) (h1 : ∀ a ∈ M.take k, klt a t) (h2 : ∀ q r, M.drop k = q :: r → ¬ klt q t) : SrtP (M.take k ++ t :: M.drop k) := by
  have hs' : SrtP (M.take k ++ M.drop k) := by rw [List.take_append_drop]; exact hs
  unfold SrtP at *
  rw [List.pairwise_append] at hs' ⊢
  obtain ⟨p1, p2, p3⟩ := hs'
  refine ⟨p1, List.pairwise_cons.2 ⟨fun q hq => ?_, p2⟩, fun a ha b hb => ?_⟩
  · cases hd : M.drop k with
    | nil => rw [hd] at hq; cases hq
    | cons q0 r =>
      have h0 := h2 q0 r hd
      rw [hd] at hq p2
      rcases List.mem_cons.1 hq with rfl | hq
      · exact h0
      · exact klt_ntrans ((List.pairwise_cons.1 p2).1 q hq) h0
  · rcases List.mem_cons.1 hb with rfl | hb
    · exact fun q => klt_irrefl _ (klt_trans (h1 a ha) q)
    · exact p3 a ha b hb
theorem put_perm {α : Type} (M : List α) (t : α) (k : Nat) : (M.take k ++ t :: M.drop k).Perm (M ++ [t]) := by
  have h1 : (M.take k ++ t :: M.drop k).Perm (t :: (M.take k ++ M.drop k)) := List.perm_middle
  rw [List.take_append_drop] at h1
  exact h1.trans (List.perm_append_singleton t M).symm
/-- The first m clusters, row by row, of rows of a. -/
def kl (a m : Nat) : List (Int × Int) := (List.range m).map (fun i => (((i % a : Nat) : Int), ((i / a : Nat) : Int)))
theorem kl_succ (a m : Nat) : kl a (m + 1) = kl a m ++ [(((m % a : Nat) : Int), ((m / a : Nat) : Int))] := by simp [kl, List.range_succ]
theorem kl_at {a x y : Nat} (hx : x < a) : kl a (y * a + x + 1) = kl a (y * a + x) ++ [((x : Int), (y : Int))] := by
  rw [kl_succ, (idx_mod (y := y) hx).1, (idx_mod (y := y) hx).2]
theorem allK_kl {wd ht : Nat} (hd : (1 ≤ wd ∧ wd ≤ 128) ∧ 1 ≤ ht ∧ ht ≤ 128) : (allK (wd : Nat) (ht : Nat)).map (·.1) = kl ((wd - 1) / 8 + 1) (((ht - 1) / 8 + 1) * ((wd - 1) / 8 + 1)) := by
  have e1 : (clN (wd : Nat)).toNat = (wd - 1) / 8 + 1 := by unfold clN; omega
  have e2 : (clN (ht : Nat)).toNat = (ht - 1) / 8 + 1 := by unfold clN; omega
  have hm : may 0 0 (clN (wd : Nat)) (clN (ht : Nat)) = true := (may_iff _ _ _ _).2 (by unfold clN; omega)
  unfold allK allC
  rw [if_pos hm, e1, e2, upto, List.map_map, kl]
  refine List.map_congr_left (fun i hi => ?_)
  have hlt : i < ((ht - 1) / 8 + 1) * ((wd - 1) / 8 + 1) := List.mem_range.1 hi
  have hb : ((ht - 1) / 8 + 1) * ((wd - 1) / 8 + 1) ≤ 16 * 16 := Nat.mul_le_mul (by omega) (by omega)
  have h1 : i % ((wd - 1) / 8 + 1) ≤ i := Nat.mod_le _ _
  have h2 : i / ((wd - 1) / 8 + 1) ≤ i := Nat.div_le_self _ _
  show (mkC (cellAt 0 0 ((wd - 1) / 8 + 1) i)).1 = _
  have hc : cellAt 0 0 ((wd - 1) / 8 + 1) i = (((i % ((wd - 1) / 8 + 1) : Nat) : Int), ((i / ((wd - 1) / 8 + 1) : Nat) : Int)) := by unfold cellAt; simp
  rw [hc]
  obtain ⟨q, hq⟩ : ∃ q, i / ((wd - 1) / 8 + 1) = q := ⟨_, rfl⟩
  obtain ⟨m, hm'⟩ : ∃ m, i % ((wd - 1) / 8 + 1) = m := ⟨_, rfl⟩
  rw [hq] at h2 ⊢
  rw [hm'] at h1 ⊢
  exact mkC_is ⟨w64_of (by simp only; omega), w64_of (by simp only; omega)⟩
set_option maxHeartbeats 1000000 in
theorem less34 (p q : Q4) (w : World) : Calls Tryz.prog 34 #[p.v, q.v] w fun e w' => e = .returned (.bool (kltB p q)) ∧ Below w.heap.size w w' := by
  obtain ⟨px, py, pa, pb⟩ := p
  obtain ⟨qx, qy, qa, qb⟩ := q
  obtain ⟨X, hX⟩ : ∃ X, (w.alloc (.cells #[.int .i64 px, .int .i64 py, .int .i64 pa, .int .i64 pb] 64)).alloc (.cells #[.int .i64 qx, .int .i64 qy, .int .i64 qa, .int .i64 qb] 64) = X := ⟨_, rfl⟩
  have B0 : Below w.heap.size w X := hX ▸ box2 _ _ _
  have T0 : Four X w.heap.size px py pa pb := by rw [← hX]; exact (Four.newAt _ _ _ _ _ rfl).kept (box1 _ _)
  have T1 : Four X (w.heap.size + 1) qx qy qa qb := by rw [← hX]; exact Four.newAt _ _ _ _ _ (by simp)
  have H1 := hide (less_any px py qx qy X)
  have H2 := hide (less_any pa pb qa qb X)
  have HX := hide hX
  have HG := hide B0
  have hne : ∀ wx, (binOp .neq 35 (cel px py) (cel qx qy)).run Tryz.prog wx = .ok (.bool !(decide (px = qx) && decide (py = qy))) wx := fun wx => neC _ _ _ _ wx
  unfold kltB
  simp only
  obtain ⟨⟨c0, c1, c2, c3⟩, -, -⟩ := id T0
  obtain ⟨⟨d0, d1, d2, d3⟩, -, -⟩ := id T1
  clear hX B0 T0 T1
  by_cases h : px = qx ∧ py = qy
  · rw [show decide (py < qy ∨ (py = qy ∧ (px < qx ∨ (px = qx ∧ (pb < qb ∨ (pb = qb ∧ pa < qa)))))) = decide (pb < qb ∨ (pb = qb ∧ pa < qa)) from decide_eq_decide.2 (by omega)]
    rw [show (!(decide (px = qx) && decide (py = qy))) = false by simp [h]] at hne
    generalize decide (pb < qb ∨ (pb = qb ∧ pa < qa)) = r at H2 ⊢
    clear h
    go_enter Tryz.func34, Tryz.ntmps34
    go_wp2_with (rw [HX.out])
    refine H2.out.mono ?_
    rintro e w1 ⟨rfl, g1⟩
    have HG1 := hide (bt HG.out g1)
    clear g1 c0 c1 c2 c3 d0 d1 d2 d3
    go_wp2_with fail
    go_ret
    exact ⟨rfl, HG1.out⟩
  · rw [show decide (py < qy ∨ (py = qy ∧ (px < qx ∨ (px = qx ∧ (pb < qb ∨ (pb = qb ∧ pa < qa)))))) = decide (py < qy ∨ (py = qy ∧ px < qx)) from decide_eq_decide.2 (by omega)]
    rw [show (!(decide (px = qx) && decide (py = qy))) = true by
      rw [Bool.not_eq_true', Bool.and_eq_false_iff, decide_eq_false_iff_not, decide_eq_false_iff_not]
      by_cases h2 : px = qx
      · exact .inr (fun k => h ⟨h2, k⟩)
      · exact .inl h2] at hne
    generalize decide (py < qy ∨ (py = qy ∧ px < qx)) = r at H1 ⊢
    clear h
    go_enter Tryz.func34, Tryz.ntmps34
    go_wp2_with (rw [HX.out])
    refine H1.out.mono ?_
    rintro e w1 ⟨rfl, g1⟩
    have HG1 := hide (bt HG.out g1)
    clear g1 c0 c1 c2 c3 d0 d1 d2 d3
    go_wp2_with fail
    go_ret
    exact ⟨rfl, HG1.out⟩
end Go.Proofs.YtkjogcnoaipniaaGreatDoor
namespace Go.Proofs.YtkjogcnoaipniaaGreatDoor
open Go.RowKit Go.Shelf
set_option linter.unusedVariables false
set_option linter.unusedSimpArgs false
theorem run_below {ev : Operand → Value} {o : Oper} {w : World} {x t : Operand} {g n cap k : Nat} (ho : o.op = .slice 44 x none (some t) none) (hx : ev x = .slice (some ⟨g, 0, none⟩) n cap) (ht : ev t = .int .i64 k) (hk : k ≤ cap) (hcap : cap ≤ maxLen) :
    (execOp ev o).run Tryz.prog w = .ok (.value (.slice (some ⟨g, 0, none⟩) k cap)) w := by
  have h1 : (0 : Int) ≤ (k : Nat) ∧ (k : Int) ≤ (cap : Nat) ∧ (cap : Int) ≤ 9223372036854775807 := by unfold maxLen at hcap; omega
  unfold execOp
  rw [ho]
  simp only [hx, ht]
  go_simp
theorem run_beyond {ev : Operand → Value} {o : Oper} {w : World} {x t : Operand} {g n cap k : Nat} (ho : o.op = .slice 44 x (some t) none none) (hx : ev x = .slice (some ⟨g, 0, none⟩) n cap) (ht : ev t = .int .i64 k) (hk : k ≤ n) (hn : n ≤ cap) (hcap : cap ≤ maxLen) :
    (execOp ev o).run Tryz.prog w = .ok (.value (.slice (some (if cap = k then ⟨g, 0, none⟩ else ⟨g, k * 4, none⟩)) (n - k) (cap - k))) w := by
  have h1 : (0 : Int) ≤ (k : Nat) ∧ (k : Int) ≤ (n : Nat) ∧ (n : Int) ≤ (cap : Nat) ∧ (cap : Int) ≤ 9223372036854775807 := by unfold maxLen at hcap; omega
  unfold execOp
  rw [ho]
  simp only [hx, ht]
  by_cases hc : cap = k
  · have hc' : cap - k = 0 := by omega
    rw [if_pos hc]
    go_simp
  · have hc' : ¬ cap - k = 0 := by omega
    rw [if_neg hc]
    go_simp
theorem run_empty {ev : Operand → Value} {o : Oper} {w : World} (ho : o.op = .buildSlice 44 0 #[]) : (execOp ev o).run Tryz.prog w = .ok (.value (.slice (some ⟨w.heap.size, 0, none⟩) 0 0)) (w.alloc (.cells #[] 64)) := by
  unfold execOp
  rw [ho]
  go_simp
theorem run_single {ev : Operand → Value} {o : Oper} {w : World} {x : Operand} {p q c d : Int} (ho : o.op = .buildSlice 44 1 #[(0, x)]) (hx : ev x = rct p q c d) :
    (execOp ev o).run Tryz.prog w = .ok (.value (.slice (some ⟨w.heap.size, 0, none⟩) 1 1)) (w.alloc (.cells #[.int .i64 p, .int .i64 q, .int .i64 c, .int .i64 d] 64)) := by
  unfold execOp; rw [ho]; simp only [List.map_toArray, List.map_cons, List.map_nil, hx]; go_simp
theorem run_assign {P : Program} {ev : Operand → Value} {o : Oper} {w : World} {x : Operand} {v : Value} (ho : o.op = .assign x) (hx : ev x = v) : (execOp ev o).run P w = .ok (.value v) w := by
  unfold execOp; rw [ho, ← hx]; rfl
section
variable {w : World} {g cap : Nat} {M L : List Q4} {u : Value}
theorem Rw.app_lo (h : Rq 64 w (.slice (some ⟨g, 0, none⟩) M.length cap) M) (U : Rq 64 w u L) (k : Nat) (hk : k ≤ M.length) (hn : L.length + M.length ≤ 1000000) :
    ∃ v' w', (Builtin.append_ #[44, 44] 44 #[u, .slice (some ⟨g, 0, none⟩) k cap]).run Tryz.prog w = .ok v' w' ∧ Rq 64 w' v' (L ++ M.take k) ∧ (∀ j, v'.ownBlock = some j → u.ownBlock = some j ∨ w.heap.size ≤ j) ∧ Turns (fun j => u.ownBlock = some j) w w' := by
  have hl : (M.take k).length = k := by simp; omega
  have := U.more (c := cap) (M := M.take k) (a := ⟨g, 0, none⟩) Tryz.underlying44 info64q (fun j x hx => h.cells (g := g) rfl j x (by
    rw [show M.flatMap Q4.cs = (M.take k).flatMap Q4.cs ++ (M.drop k).flatMap Q4.cs by rw [← List.flatMap_append, List.take_append_drop]]
    rw [List.getElem?_append_left (List.getElem?_eq_some_iff.1 hx).1]
    exact hx)) (by omega)
  rwa [hl] at this
theorem Rw.app_hi (h : Rq 64 w (.slice (some ⟨g, 0, none⟩) M.length cap) M) (U : Rq 64 w u L) (k : Nat) (hk : k ≤ M.length) (hc : M.length ≤ cap) (hn : L.length + M.length ≤ 1000000) :
    ∃ v' w', (Builtin.append_ #[44, 44] 44 #[u, .slice (some (if cap = k then ⟨g, 0, none⟩ else ⟨g, k * 4, none⟩)) (M.length - k) (cap - k)]).run Tryz.prog w = .ok v' w' ∧ Rq 64 w' v' (L ++ M.drop k) ∧ (∀ j, v'.ownBlock = some j → u.ownBlock = some j ∨ w.heap.size ≤ j) ∧ Turns (fun j => u.ownBlock = some j) w w' := by
  have hl : (M.drop k).length = M.length - k := by simp
  have := U.more (c := cap - k) (M := M.drop k) (a := if cap = k then ⟨g, 0, none⟩ else ⟨g, k * 4, none⟩) Tryz.underlying44 info64q (fun j x hx => by
    split
    · rw [List.drop_eq_nil_of_le (by omega)] at hx
      simp at hx
    · have hc := h.cells (g := g) rfl (k * 4 + j) x (by
        rw [show M.flatMap Q4.cs = (M.take k).flatMap Q4.cs ++ (M.drop k).flatMap Q4.cs by rw [← List.flatMap_append, List.take_append_drop]]
        rw [List.getElem?_append_right (by rw [flat_len]; simp; omega), flat_len, show (M.take k).length = k by simp; omega, Nat.add_sub_cancel_left]
        exact hx)
      simpa [Addr.add_lit] using hc) (by omega)
  rwa [hl] at this
end
/-- A row of the call's own behind W0. -/
structure Pw (W0 W : World) (v : Value) (L : List Q4) : Prop where
  below : Below W0.heap.size W0 W
  us : Rq 64 W v L
  own : ∀ j, v.ownBlock = some j → W0.heap.size ≤ j
theorem Pw.step {W0 W W' : World} {v v' : Value} {L L' : List Q4} (h : Pw W0 W v L) (U : Rq 64 W' v' L') (T : Turns (fun j => v.ownBlock = some j) W W') (ho : ∀ j, v'.ownBlock = some j → v.ownBlock = some j ∨ W.heap.size ≤ j) : Pw W0 W' v' L' :=
  ⟨h.below.trans (T.below (fun j e => h.own j e) h.below.size), U, fun j e => by
    rcases ho j e with q | q
    · exact h.own j q
    · have := h.below.size; omega⟩
theorem Pw.alloc {W0 W : World} {v : Value} {L : List Q4} (h : Pw W0 W v L) (o : Obj) : Pw W0 (W.alloc o) v L :=
  ⟨h.below.trans ((box1 W o).mono h.below.size), h.us.upto (box1 W o), h.own⟩
theorem Pw.empty {W0 W : World} (h : Below W0.heap.size W0 W) : Pw W0 (W.alloc (.cells #[] 64)) (.slice (some ⟨W.heap.size, 0, none⟩) 0 0) [] :=
  ⟨h.trans ((box1 W _).mono h.size), empty64 W, fun j e => by cases e; exact h.size⟩
/-- One portal in a block of its own. -/
def Lone (W : World) (s : Nat) (t : Q4) : Prop := W.heap[s]? = some (.cells #[.int .i64 t.x, .int .i64 t.y, .int .i64 t.a, .int .i64 t.b] 64 (0, 0))
theorem Lone.cells {W : World} {s : Nat} {t : Q4} (h : Lone W s t) : ∀ j u, (([t] : List Q4).flatMap Q4.cs)[j]? = some u → W.cell? ((⟨s, 0, none⟩ : Addr).add j) = some u := fun j u hu => by
  rw [Addr.add_lit, Nat.zero_add, cell_of_row _ s j _ _ _ h]
  simpa [Q4.cs] using hu
theorem Lone.new (W : World) (t : Q4) : Lone (W.alloc (.cells #[.int .i64 t.x, .int .i64 t.y, .int .i64 t.a, .int .i64 t.b] 64)) W.heap.size t := heap_alloc_new W _
theorem Lone.alloc {W : World} {s : Nat} {t : Q4} (h : Lone W s t) (o : Obj) : Lone (W.alloc o) s t := ((box1 W o).block s (Array.getElem?_eq_some_iff.1 h).1).trans h
theorem Lone.turned {W W' : World} {s : Nat} {t : Q4} (h : Lone W s t) {S : Nat → Prop} (T : Turns S W W') (hs : ¬ S s) : Lone W' s t := T.same hs h
/-- What the last two appends give. -/
theorem put_tail {W0 W : World} {g cap : Nat} {u : Value} {M : List Q4} {k s : Nat} {t : Q4} (hR : Rq 64 W0 (.slice (some ⟨g, 0, none⟩) M.length cap) M) (h : Pw W0 W u (M.take k)) (hs : Lone W s t) (hk : k ≤ M.length) (hc : M.length ≤ cap) (hl : M.length ≤ 100000) :
    ∃ v2 W2 v3 W3, (Builtin.append_ #[44, 44] 44 #[u, .slice (some ⟨s, 0, none⟩) 1 1]).run Tryz.prog W = .ok v2 W2 ∧ (Builtin.append_ #[44, 44] 44 #[v2, .slice (some (if cap = k then ⟨g, 0, none⟩ else ⟨g, k * 4, none⟩)) (M.length - k) (cap - k)]).run Tryz.prog W2 = .ok v3 W3 ∧
      Below W0.heap.size W0 W2 ∧ Pw W0 W3 v3 (M.take k ++ t :: M.drop k) := by
  have ht : (M.take k).length ≤ 100000 := by simp; omega
  obtain ⟨v2, W2, r2, u2, o2, g2⟩ := h.us.more (c := 1) (M := [t]) (a := ⟨s, 0, none⟩) Tryz.underlying44 info64q hs.cells (by simp; omega)
  have p2 := h.step u2 g2 o2
  have hR2 := hR.upto p2.below
  obtain ⟨v3, W3, r3, u3, o3, g3⟩ := hR2.app_hi p2.us k hk hc (by simp; omega)
  have p3 := p2.step u3 g3 o3
  refine ⟨v2, W2, v3, W3, r2, r3, p2.below, ?_⟩
  rw [List.append_assoc, List.singleton_append] at p3
  exact p3
end Go.Proofs.YtkjogcnoaipniaaGreatDoor
namespace Go.Proofs.YtkjogcnoaipniaaGreatDoor
open Go.RowKit Go.Shelf
set_option linter.unusedVariables false
set_option linter.unusedSimpArgs false
attribute [local go_sem] Oper.semAt_some
theorem run_call34 {ev : Operand → Value} {o : Oper} {w : World} {ar : Array Operand} {ts : Array TypeId} {vs : Array Value} (hop : o.op = .call { callee := .value (.func 34), args := ar, argTypes := ts }) (hf : ev (.func 34) = .func (.func 34) #[] #[]) (hvs : ar.map ev = vs) : (execOp ev o).run Tryz.prog w = .ok (.enter 34 vs) w := by
  unfold execOp
  simp only [hop, resolve, hf, hvs]
  go_simp
theorem Rw.caps {w : World} {g c : Nat} {M : List Q4} (h : Rq 64 w (.slice (some ⟨g, 0, none⟩) M.length c) M) : M.length ≤ c ∧ c ≤ maxLen := by
  rcases h.2 with ⟨e, h0⟩ | ⟨g', cap, cur, e, hb, hg, hn, hm, r⟩
  · cases e
  · simp only [Value.slice.injEq] at e
    obtain ⟨-, -, rfl⟩ := e
    exact ⟨hn, hm⟩
/-- A row that is no nil. -/
theorem Rw.some_of {w : World} {v : Value} {M : List Q4} (h : Rq 64 w v M) (hn : v ≠ .slice none 0 0) : ∃ g c, v = .slice (some ⟨g, 0, none⟩) M.length c := by
  rcases h.2 with ⟨e, h0⟩ | ⟨g', cap, cur, e, r⟩
  · exact absurd e hn
  · exact ⟨_, _, e⟩
/-- What the document's list of portals keeps. -/
structure Ot (V wr : World) (g c : Nat) (M : List Q4) : Prop where
  bl : Below V.heap.size V wr
  row : Rq 64 wr (.slice (some ⟨g, 0, none⟩) M.length c) M
  srt : SrtP M
theorem Ot.upto {V wr wx : World} {g c : Nat} {M : List Q4} (h : Ot V wr g c M) (hb : Below wr.heap.size wr wx) : Ot V wx g c M := ⟨bt h.bl hb, h.row.upto hb, h.srt⟩
theorem Rw.cons_some {w : World} {v : Value} {A B : List Q4} {t : Q4} (h : Rq 64 w v (A ++ t :: B)) : ∃ g c, v = .slice (some ⟨g, 0, none⟩) (A ++ t :: B).length c := by
  rcases h.2 with ⟨e, h0⟩ | ⟨g', cap, cur, e, r⟩
  · simp at h0
  · exact ⟨_, _, e⟩
theorem take_at {α : Type} {l : List α} {i : Nat} {t : α} (h : l[i]? = some t) : l.take (i + 1) = l.take i ++ [t] := by rw [List.take_add_one, h]; rfl
set_option maxRecDepth 100000 in
set_option maxHeartbeats 16000000 in
theorem dports_is {w : World} {wd ht : Nat} (hd : (1 ≤ wd ∧ wd ≤ 128) ∧ 1 ≤ ht ∧ ht ≤ 128) (S : Int → Int → Bool) (a : Option Addr) (n cap : Nat)
    (HBe : ∀ wx, Below w.heap.size w wx → ∀ kx ky d, Calls Tryz.prog 13 #[gdv wd ht (.slice a n cap), cel kx ky, .int .i64 d] wx fun e w' => ∃ lv, e = .returned lv ∧ Rq 64 w' lv (ptQ S wd ht kx ky d) ∧ Below wx.heap.size wx w' ∧ ∀ g, lv.ownBlock = some g → wx.heap.size ≤ g) :
    Calls Tryz.prog 15 #[gdv wd ht (.slice a n cap)] w fun e w' => ∃ lv M, e = .returned lv ∧ M.Perm ((kl ((wd - 1) / 8 + 1) (((ht - 1) / 8 + 1) * ((wd - 1) / 8 + 1))).flatMap (both2 S wd ht)) ∧ SrtP M ∧ Rq 64 w' lv M ∧ Below w.heap.size w w' := by
  obtain ⟨V, hV⟩ : ∃ V, w.alloc (.cells #[.int .i64 (wd : Nat), .int .i64 (ht : Nat), .slice a n cap] 38) = V := ⟨_, rfl⟩
  have B0 : Below w.heap.size w V := by rw [← hV]; exact box1 _ _
  have GV : GB V w.heap.size wd ht (.slice a n cap) := by rw [← hV]; exact GB.new w wd ht _
  have HK : Hid (∀ wx, Below V.heap.size V wx → (fun wx : World => wx.cell? ⟨w.heap.size, 0, none⟩ = some (.int .i64 (wd : Nat)) ∧ wx.cell? ⟨w.heap.size, 1, none⟩ = some (.int .i64 (ht : Nat)) ∧ wx.cell? ⟨w.heap.size, 2, none⟩ = some (.slice a n cap)) wx) := hide fun wx q => ⟨(GV.upto q).c.1.1, (GV.upto q).c.1.2, (GV.upto q).c.2⟩
  obtain ⟨aN, haN⟩ : ∃ e, (wd - 1) / 8 + 1 = e := ⟨_, rfl⟩
  obtain ⟨bN, hbN⟩ : ∃ e, (ht - 1) / 8 + 1 = e := ⟨_, rfl⟩
  obtain ⟨h1, hh1⟩ : ∃ e, ((ht : Nat) : Int) - 1 = e := ⟨_, rfl⟩
  obtain ⟨w1, hw1⟩ : ∃ e, ((wd : Nat) : Int) - 1 = e := ⟨_, rfl⟩
  obtain ⟨hb, hhb⟩ : ∃ e, h1 / 8 = e := ⟨_, rfl⟩
  obtain ⟨wb, hwb⟩ : ∃ e, w1 / 8 = e := ⟨_, rfl⟩
  have k1 : IntKind.i64.wrap (((ht : Nat) : Int) - 1) = h1 := by rw [IntKind.wrap_i64]; omega
  have k2 : IntKind.i64.wrap (((wd : Nat) : Int) - 1) = w1 := by rw [IntKind.wrap_i64]; omega
  have HDh := hide (fun wx => down_any h1 (w64_of (by omega)) wx)
  have HDw := hide (fun wx => down_any w1 (w64_of (by omega)) wx)
  rw [hhb] at HDh
  rw [hwb] at HDw
  have hbe : hb + 1 = (bN : Nat) := by omega
  have wbe : wb + 1 = (aN : Nat) := by omega
  have hN16 : aN ≤ 16 ∧ bN ≤ 16 := by omega
  rw [haN, hbN]
  have HBe' := hide HBe
  have HV := hide hV
  have HB0 := hide B0
  have hlenK : ∀ m, m ≤ bN * aN → ((kl aN m).flatMap (both2 S wd ht)).length ≤ 4096 := fun m hm => by
    have := both2_len S wd ht (kl aN m)
    have h2 : bN * aN ≤ 16 * 16 := Nat.mul_le_mul hN16.2 hN16.1
    rw [show (kl aN m).length = m by simp [kl]] at this
    omega
  have HlenK := hide hlenK
  have E0 := empty64 V
  have Hbe := hide (And.intro hbe (And.intro wbe hN16))
  clear hV B0 GV HBe hh1 hw1 hhb hwb haN hbN hlenK hbe wbe hN16 hd
  go_enter Tryz.func15, Tryz.ntmps15
  go_wp2_with (rw [HV.out])
  go_loopw [3, 4] (fun u v wr => ∃ (y g oc : Nat) (M : List Q4), u = .slice (some ⟨g, 0, none⟩) M.length oc ∧ v = .int .i64 (y : Nat) ∧ y ≤ bN ∧ Ot V wr g oc M ∧ M.Perm ((kl aN (y * aN)).flatMap (both2 S wd ht))) (fun _ v _ => bN - (intOf v).toNat)
  case atStart => exact ⟨0, _, 0, [], rfl, rfl, Nat.zero_le _, ⟨box1 _ _, E0, List.Pairwise.nil⟩, by rw [Nat.zero_mul]; exact .refl _⟩
  case round =>
    clear E0
    obtain ⟨y, g, oc, M, rfl, rfl, hy, hO, hP⟩ := hrel
    rename World => wy
    obtain ⟨c0, c1, c2⟩ := HK.out wy hO.bl
    have hbe := Hbe.out
    have HO := hide hO
    have HP := hide hP
    clear hO hP
    by_cases hlt : y < bN
    · have hyI : (0 : Int) ≤ (y : Nat) ∧ ((y : Nat) : Int) ≤ 16 := by omega
      have hli : ((y : Nat) : Int) ≤ hb := by omega
      have Hbe2 := hide hbe
      clear hbe
      go_wp2_with fail
      refine (HDh.out _).mono ?_
      rintro e w' ⟨rfl, hw'⟩; have hw2 := hw'.symm; clear hw'; subst hw2
      clear c0 c1 c2
      go_wp2_with fail
      go_loopw [3, 5] (fun u v wr => ∃ (x g oc : Nat) (M : List Q4), u = .slice (some ⟨g, 0, none⟩) M.length oc ∧ v = .int .i64 (x : Nat) ∧ x ≤ aN ∧ Ot V wr g oc M ∧ M.Perm ((kl aN (y * aN + x)).flatMap (both2 S wd ht))) (fun _ v _ => aN - (intOf v).toNat)
      case atStart => exact ⟨0, _, _, _, rfl, rfl, Nat.zero_le _, HO.out, HP.out⟩
      case round =>
        clear HO HP
        obtain ⟨x, g, oc, M, rfl, rfl, hx, hO, hP⟩ := hrel
        rename World => wx0
        obtain ⟨c0, c1, c2⟩ := HK.out wx0 hO.bl
        have hbe := Hbe2.out
        have HO := hide hO
        have HP := hide hP
        clear hO hP
        by_cases hltx : x < aN
        · have hxI : (0 : Int) ≤ (x : Nat) ∧ ((x : Nat) : Int) ≤ 16 := by omega
          have hlx : ((x : Nat) : Int) ≤ wb := by omega
          clear hbe
          go_wp2_with fail
          refine (HDw.out _).mono ?_
          rintro e w' ⟨rfl, hw'⟩; have hw2 := hw'.symm; clear hw'; subst hw2
          have HS : (fun wx : World => wx.cell? ⟨w.heap.size, 0, none⟩ = some (.int .i64 (wd : Nat)) ∧ wx.cell? ⟨w.heap.size, 1, none⟩ = some (.int .i64 (ht : Nat)) ∧ wx.cell? ⟨w.heap.size, 2, none⟩ = some (.slice a n cap)) wx0.drew := ⟨c0, c1, c2⟩
          clear c0 c1 c2
          go_wp2_with fail
          refine wp_only ?_
          refine wp_region_z (fun wx : World => wx.cell? ⟨w.heap.size, 0, none⟩ = some (.int .i64 (wd : Nat)) ∧ wx.cell? ⟨w.heap.size, 1, none⟩ = some (.int .i64 (ht : Nat)) ∧ wx.cell? ⟨w.heap.size, 2, none⟩ = some (.slice a n cap)) [] (by kernel_rfl) ?_
          refine anyZ_take 0 30 (v := gdv wd ht (.slice a n cap)) rfl (by kernel_rfl) (fun _ _ _ h => h.elim) (Or.inl ⟨by rfl, fun wx hx => by obtain ⟨p0, p1, p2⟩ := hx; clear HS; go_simp⟩) HS ?_
          try simp only [Act.put, List.getElem_toArray, List.getElem_cons_zero, List.getElem_cons_succ, List.setIfInBounds_toArray, List.set_cons_zero, List.set_cons_succ]
          refine anyZ_take 1 30 (v := .int .i64 (x : Nat)) rfl (by kernel_rfl) (fun _ _ _ h => h.elim) (Or.inl ⟨by rfl, fun wx hx => by obtain ⟨p0, p1, p2⟩ := hx; clear HS; go_simp⟩) HS ?_
          try simp only [Act.put, List.getElem_toArray, List.getElem_cons_zero, List.getElem_cons_succ, List.setIfInBounds_toArray, List.set_cons_zero, List.set_cons_succ]
          refine anyZ_take 2 30 (v := .int .i64 (y : Nat)) rfl (by kernel_rfl) (fun _ _ _ h => h.elim) (Or.inl ⟨by rfl, fun wx hx => by obtain ⟨p0, p1, p2⟩ := hx; clear HS; go_simp⟩) HS ?_
          try simp only [Act.put, List.getElem_toArray, List.getElem_cons_zero, List.getElem_cons_succ, List.setIfInBounds_toArray, List.set_cons_zero, List.set_cons_succ]
          refine anyZ_take 3 30 (v := cel (x : Nat) (y : Nat)) rfl (by kernel_rfl) (fun _ _ _ h => h.elim) (Or.inl ⟨by rfl, fun wx hx => by obtain ⟨p0, p1, p2⟩ := hx; clear HS; go_simp⟩) HS ?_
          try simp only [Act.put, List.getElem_toArray, List.getElem_cons_zero, List.getElem_cons_succ, List.setIfInBounds_toArray, List.set_cons_zero, List.set_cons_succ]
          refine anyZ_take 5 30 (v := gdv wd ht (.slice a n cap)) rfl (by kernel_rfl) (fun _ _ _ h => h.elim) (Or.inl ⟨by rfl, fun wx hx => by obtain ⟨p0, p1, p2⟩ := hx; clear HS; go_simp⟩) HS ?_
          try simp only [Act.put, List.getElem_toArray, List.getElem_cons_zero, List.getElem_cons_succ, List.setIfInBounds_toArray, List.set_cons_zero, List.set_cons_succ]
          refine anyZ_take 6 30 (v := .int .i64 (x : Nat)) rfl (by kernel_rfl) (fun _ _ _ h => h.elim) (Or.inl ⟨by rfl, fun wx hx => by obtain ⟨p0, p1, p2⟩ := hx; clear HS; go_simp⟩) HS ?_
          try simp only [Act.put, List.getElem_toArray, List.getElem_cons_zero, List.getElem_cons_succ, List.setIfInBounds_toArray, List.set_cons_zero, List.set_cons_succ]
          refine anyZ_take 7 30 (v := .int .i64 (y : Nat)) rfl (by kernel_rfl) (fun _ _ _ h => h.elim) (Or.inl ⟨by rfl, fun wx hx => by obtain ⟨p0, p1, p2⟩ := hx; clear HS; go_simp⟩) HS ?_
          try simp only [Act.put, List.getElem_toArray, List.getElem_cons_zero, List.getElem_cons_succ, List.setIfInBounds_toArray, List.set_cons_zero, List.set_cons_succ]
          refine anyZ_take 8 30 (v := cel (x : Nat) (y : Nat)) rfl (by kernel_rfl) (fun _ _ _ h => h.elim) (Or.inl ⟨by rfl, fun wx hx => by obtain ⟨p0, p1, p2⟩ := hx; clear HS; go_simp⟩) HS ?_
          try simp only [Act.put, List.getElem_toArray, List.getElem_cons_zero, List.getElem_cons_succ, List.setIfInBounds_toArray, List.set_cons_zero, List.set_cons_succ]
          refine anyZ_ready (rs := [4]) (by kernel_rfl) (by simp) ?_
          refine readyZ.call rfl rfl (run_call13 (by rfl) (by rfl) (by simp only [List.map_toArray, List.map_cons, List.map_nil]; rfl)) (HBe'.out _ (bt HB0.out (Below.drew HO.out.bl)) (x : Nat) (y : Nat) 0) ?_ readyZ.nil
          rintro e Y1 ⟨lv1, rfl, row1, hbY1', hown1⟩
          have hbY1 : Below wx0.heap.size wx0 Y1 := Below.trans (Below.drew (Below.refl wx0.heap.size wx0)) hbY1'
          have HS1 := HK.out _ (bt HO.out.bl hbY1)
          refine ⟨_, rfl, fun _ => HS1, ?_⟩
          try simp only [Act.put, List.getElem_toArray, List.getElem_cons_zero, List.getElem_cons_succ, List.setIfInBounds_toArray, List.set_cons_zero, List.set_cons_succ]
          refine anyZ_ready (rs := [9]) (by kernel_rfl) (by simp) ?_
          refine readyZ.call rfl rfl (run_call13 (by rfl) (by rfl) (by simp only [List.map_toArray, List.map_cons, List.map_nil]; rfl)) (HBe'.out _ (bt HB0.out (bt HO.out.bl hbY1)) (x : Nat) (y : Nat) 1) ?_ readyZ.nil
          rintro e Y2 ⟨lv2, rfl, row2, hbY2, -⟩
          have HS2 := HK.out _ (bt HO.out.bl (bt hbY1 hbY2))
          refine ⟨_, rfl, fun _ => HS2, ?_⟩
          try simp only [Act.put, List.getElem_toArray, List.getElem_cons_zero, List.getElem_cons_succ, List.setIfInBounds_toArray, List.set_cons_zero, List.set_cons_succ]
          have hown1' := hown1
          obtain ⟨v3, Y3, rA, rR, rO, rT⟩ := (row1.upto hbY2).add row2 (by have := ptQ_len S wd ht (x : Nat) (y : Nat) 0; have := ptQ_len S wd ht (x : Nat) (y : Nat) 1; omega)
          have hbY3 : Below wx0.heap.size wx0 Y3 := (bt hbY1 hbY2).trans (rT.below (fun j e => hown1 j e) (bt hbY1 hbY2).size)
          obtain ⟨PL, hPL⟩ : ∃ PL, ptQ S wd ht (x : Nat) (y : Nat) 0 ++ ptQ S wd ht (x : Nat) (y : Nat) 1 = PL := ⟨_, rfl⟩
          have hPLn : PL.length ≤ 16 := by rw [← hPL, List.length_append]; have := ptQ_len S wd ht (x : Nat) (y : Nat) 0; have := ptQ_len S wd ht (x : Nat) (y : Nat) 1; omega
          rw [hPL] at rR
          obtain ⟨la, lc, hlv⟩ := rR.slice4
          subst hlv
          have HS3 := HK.out _ (bt HO.out.bl hbY3)
          refine anyZ_ready (rs := [10]) (by kernel_rfl) (by simp) ?_
          refine readyZ.cons rfl rfl (run_append (by rfl) (by rfl) (by rfl) rA) (fun _ => HS3) ?_ readyZ.nil
          try simp only [Act.put, List.getElem_toArray, List.getElem_cons_zero, List.getElem_cons_succ, List.setIfInBounds_toArray, List.set_cons_zero, List.set_cons_succ]
          refine anyZ_ready (rs := [11]) (by kernel_rfl) (by simp) ?_
          refine readyZ.cons rfl rfl (v' := .slice la PL.length lc) (w' := Y3) (run_assign (by rfl) (by rfl)) (fun _ => HS3) ?_ readyZ.nil
          try simp only [Act.put, List.getElem_toArray, List.getElem_cons_zero, List.getElem_cons_succ, List.setIfInBounds_toArray, List.set_cons_zero, List.set_cons_succ]
          refine anyZ_done (by kernel_rfl) ?_ _
          dsimp only [Only, Exit.then]
          have HlR := hide rR
          have HO3 := hide (HO.out.upto hbY3)
          have Hnx : Hid ((kl aN (y * aN + (x + 1))).flatMap (both2 S wd ht) = (kl aN (y * aN + x)).flatMap (both2 S wd ht) ++ PL) := hide (by rw [← Nat.add_assoc, kl_at hltx, List.flatMap_append, ← hPL]; simp [both2])
          have Hln : Hid (((kl aN (y * aN + x)).flatMap (both2 S wd ht)).length ≤ 4096) := hide (HlenK.out _ (by have : (y + 1) * aN ≤ bN * aN := Nat.mul_le_mul_right aN hlt; rw [Nat.succ_mul] at this; omega))
          have HP3 := HP
          obtain ⟨base, hbase⟩ : ∃ base, (kl aN (y * aN + x)).flatMap (both2 S wd ht) = base := ⟨_, rfl⟩
          rw [hbase] at HP3 Hnx Hln
          have hPI : (0 : Int) ≤ (PL.length : Nat) ∧ ((PL.length : Nat) : Int) ≤ 16 := by omega
          clear HS HS1 HS2 HS3 row1 row2 hbY1 hbY1' hbY2 hbY3 rA rR rO rT hown1 hown1' hPL hbase HO HP
          go_wp2_with fail
          go_loopw [3, 7] (fun u v wr => ∃ (i g oc : Nat) (M : List Q4), u = .slice (some ⟨g, 0, none⟩) M.length oc ∧ v = .int .i64 (i : Nat) ∧ i ≤ PL.length ∧ Ot V wr g oc M ∧ M.Perm (base ++ PL.take i) ∧ Below Y3.heap.size Y3 wr) (fun _ v _ => PL.length - (intOf v).toNat)
          case atStart => exact ⟨0, _, _, _, rfl, rfl, Nat.zero_le _, HO3.out, by rw [List.take_zero, List.append_nil]; exact HP3.out, Below.refl _ _⟩
          case round =>
            clear HO3 HP3
            obtain ⟨i, g, oc, M, rfl, rfl, hi, hO, hPi, hYi⟩ := hrel
            rename World => wi
            by_cases hlti : i < PL.length
            · have hiI : (0 : Int) ≤ (i : Nat) ∧ ((i : Nat) : Int) ≤ 16 := by omega
              have hlii : ((i : Nat) : Int) < (PL.length : Nat) := by omega
              have hlt2 : i + 1 ≤ PL.length := hlti
              have hti : PL[i]? = some PL[i] := List.getElem?_eq_getElem hlti
              obtain ⟨t, ht'⟩ : ∃ t, PL[i] = t := ⟨_, rfl⟩
              rw [ht'] at hti
              obtain ⟨tx, ty, ta, tb⟩ := t
              obtain ⟨gl, hgl, -, -⟩ := HlR.out.atq hti
              subst hgl
              have HSl : Hid (∀ Y : World, Below Y3.heap.size Y3 Y → (fun wx : World => wx.cell? ⟨gl, i * 4, none⟩ = some (.int .i64 tx) ∧ wx.cell? ⟨gl, i * 4 + 1, none⟩ = some (.int .i64 ty) ∧ wx.cell? ⟨gl, i * 4 + 2, none⟩ = some (.int .i64 ta) ∧ wx.cell? ⟨gl, i * 4 + 3, none⟩ = some (.int .i64 tb)) Y) := hide fun Y q => by
                obtain ⟨g', e', -, z0, z1, z2, z3⟩ := (HlR.out.upto q).atq hti
                cases e'
                exact ⟨z0, z1, z2, z3⟩
              have HTk := hide (take_at hti)
              have HMl : Hid (M.length ≤ 5000) := hide (by have := hPi.length_eq; rw [List.length_append, List.length_take] at this; have := Hln.out; omega)
              have hMI : (0 : Int) ≤ (M.length : Nat) ∧ ((M.length : Nat) : Int) ≤ 5000 := by have := HMl.out; omega
              obtain ⟨M', hM'⟩ : ∃ M', M' = M := ⟨_, rfl⟩
              have HOi := hide hO
              have HPi := hide hPi
              have HYi := hide hYi
              clear hO hPi hYi ht' hti hM'
              go_wp2_with fail
              go_loopw [8] (fun v wr => ∃ k : Nat, v = .int .i64 (k : Nat) ∧ k ≤ M.length ∧ (∀ a ∈ M.take k, klt a ⟨tx, ty, ta, tb⟩) ∧ Below wi.heap.size wi wr) (fun v _ => M.length - (intOf v).toNat)
              case atStart => exact ⟨0, rfl, Nat.zero_le _, (fun a h => by rw [List.take_zero] at h; cases h), Below.refl _ _⟩
              case round =>
                obtain ⟨k, rfl, hk, hkl, hbk⟩ := hrel
                rename World => Z0
                have hkI : (0 : Int) ≤ (k : Nat) ∧ ((k : Nat) : Int) ≤ 5000 := by omega
                have HKl := hide hkl
                have Hk := hide hk
                obtain ⟨M3, hM3⟩ : ∃ M3, M.take k ++ (⟨tx, ty, ta, tb⟩ : Q4) :: M.drop k = M3 := ⟨_, rfl⟩
                have HM3 := hide hM3
                clear hkl hM3
                by_cases hltk : k < M.length
                · have hlk : ((k : Nat) : Int) < (M.length : Nat) := by omega
                  have hmk : M[k]? = some M[k] := List.getElem?_eq_getElem hltk
                  obtain ⟨m, hm'⟩ : ∃ m, M[k] = m := ⟨_, rfl⟩
                  rw [hm'] at hmk
                  obtain ⟨mx, my, ma, mb⟩ := m
                  obtain ⟨g', e', -, z0, z1, z2, z3⟩ := (HOi.out.row.upto hbk).atq hmk
                  cases e'
                  have HS : (fun wx : World => (wx.cell? ⟨g, k * 4, none⟩ = some (.int .i64 mx) ∧ wx.cell? ⟨g, k * 4 + 1, none⟩ = some (.int .i64 my) ∧ wx.cell? ⟨g, k * 4 + 2, none⟩ = some (.int .i64 ma) ∧ wx.cell? ⟨g, k * 4 + 3, none⟩ = some (.int .i64 mb)) ∧ wx.cell? ⟨gl, i * 4, none⟩ = some (.int .i64 tx) ∧ wx.cell? ⟨gl, i * 4 + 1, none⟩ = some (.int .i64 ty) ∧ wx.cell? ⟨gl, i * 4 + 2, none⟩ = some (.int .i64 ta) ∧ wx.cell? ⟨gl, i * 4 + 3, none⟩ = some (.int .i64 tb)) Z0.drew := ⟨⟨z0, z1, z2, z3⟩, HSl.out Z0 (bt HYi.out hbk)⟩
                  have HLe := hide (fun wx => less34 ⟨mx, my, ma, mb⟩ ⟨tx, ty, ta, tb⟩ wx)
                  obtain ⟨bq, hbq⟩ : ∃ b, kltB ⟨mx, my, ma, mb⟩ ⟨tx, ty, ta, tb⟩ = b := ⟨_, rfl⟩
                  rw [hbq] at HLe
                  have Hbq := hide hbq
                  have Hmk := hide hmk
                  have Hbk := hide hbk
                  clear z0 z1 z2 z3 hmk hm' hbq hbk
                  go_wp2_with fail
                  refine wp_only ?_
                  refine wp_region_z (fun wx : World => (wx.cell? ⟨g, k * 4, none⟩ = some (.int .i64 mx) ∧ wx.cell? ⟨g, k * 4 + 1, none⟩ = some (.int .i64 my) ∧ wx.cell? ⟨g, k * 4 + 2, none⟩ = some (.int .i64 ma) ∧ wx.cell? ⟨g, k * 4 + 3, none⟩ = some (.int .i64 mb)) ∧ wx.cell? ⟨gl, i * 4, none⟩ = some (.int .i64 tx) ∧ wx.cell? ⟨gl, i * 4 + 1, none⟩ = some (.int .i64 ty) ∧ wx.cell? ⟨gl, i * 4 + 2, none⟩ = some (.int .i64 ta) ∧ wx.cell? ⟨gl, i * 4 + 3, none⟩ = some (.int .i64 tb)) [] (by kernel_rfl) ?_
                  refine anyZ_take 0 30 (v := .int .i64 (k : Nat)) rfl (by kernel_rfl) (fun _ _ _ h => h.elim) (Or.inl ⟨by rfl, fun wx hx => by obtain ⟨⟨p0, p1, p2, p3⟩, p4, p5, p6, p7⟩ := hx; clear HS; go_simp⟩) HS ?_
                  try simp only [Act.put, List.getElem_toArray, List.getElem_cons_zero, List.getElem_cons_succ, List.setIfInBounds_toArray, List.set_cons_zero, List.set_cons_succ]
                  refine anyZ_take 1 30 (v := .slice (some ⟨g, 0, none⟩) M.length oc) rfl (by kernel_rfl) (fun _ _ _ h => h.elim) (Or.inl ⟨by rfl, fun wx hx => by obtain ⟨⟨p0, p1, p2, p3⟩, p4, p5, p6, p7⟩ := hx; clear HS; go_simp⟩) HS ?_
                  try simp only [Act.put, List.getElem_toArray, List.getElem_cons_zero, List.getElem_cons_succ, List.setIfInBounds_toArray, List.set_cons_zero, List.set_cons_succ]
                  refine anyZ_take 2 30 (v := .int .i64 (M.length : Nat)) rfl (by kernel_rfl) (fun _ _ _ h => h.elim) (Or.inl ⟨by rfl, fun wx hx => by obtain ⟨⟨p0, p1, p2, p3⟩, p4, p5, p6, p7⟩ := hx; clear HS; go_simp⟩) HS ?_
                  try simp only [Act.put, List.getElem_toArray, List.getElem_cons_zero, List.getElem_cons_succ, List.setIfInBounds_toArray, List.set_cons_zero, List.set_cons_succ]
                  refine anyZ_take 3 30 (v := .bool true) rfl (by kernel_rfl) (fun _ _ _ h => h.elim) (Or.inl ⟨by rfl, fun wx hx => by obtain ⟨⟨p0, p1, p2, p3⟩, p4, p5, p6, p7⟩ := hx; clear HS; go_simp⟩) HS ?_
                  try simp only [Act.put, List.getElem_toArray, List.getElem_cons_zero, List.getElem_cons_succ, List.setIfInBounds_toArray, List.set_cons_zero, List.set_cons_succ]
                  refine anyZ_take 4 30 (v := .bool true) rfl (by kernel_rfl) (fun _ _ _ h => h.elim) (Or.inl ⟨by rfl, fun wx hx => by obtain ⟨⟨p0, p1, p2, p3⟩, p4, p5, p6, p7⟩ := hx; clear HS; go_simp⟩) HS ?_
                  try simp only [Act.put, List.getElem_toArray, List.getElem_cons_zero, List.getElem_cons_succ, List.setIfInBounds_toArray, List.set_cons_zero, List.set_cons_succ]
                  refine anyZ_take 5 30 (v := .slice (some ⟨g, 0, none⟩) M.length oc) rfl (by kernel_rfl) (fun _ _ _ h => h.elim) (Or.inl ⟨by rfl, fun wx hx => by obtain ⟨⟨p0, p1, p2, p3⟩, p4, p5, p6, p7⟩ := hx; clear HS; go_simp⟩) HS ?_
                  try simp only [Act.put, List.getElem_toArray, List.getElem_cons_zero, List.getElem_cons_succ, List.setIfInBounds_toArray, List.set_cons_zero, List.set_cons_succ]
                  refine anyZ_take 6 30 (v := .int .i64 (k : Nat)) rfl (by kernel_rfl) (fun _ _ _ h => h.elim) (Or.inl ⟨by rfl, fun wx hx => by obtain ⟨⟨p0, p1, p2, p3⟩, p4, p5, p6, p7⟩ := hx; clear HS; go_simp⟩) HS ?_
                  try simp only [Act.put, List.getElem_toArray, List.getElem_cons_zero, List.getElem_cons_succ, List.setIfInBounds_toArray, List.set_cons_zero, List.set_cons_succ]
                  refine anyZ_take 7 30 (v := .pointer (some ⟨g, k * 4, none⟩)) rfl (by kernel_rfl) (fun _ _ _ h => h.elim) (Or.inl ⟨by rfl, fun wx hx => by obtain ⟨⟨p0, p1, p2, p3⟩, p4, p5, p6, p7⟩ := hx; clear HS; go_simp⟩) HS ?_
                  try simp only [Act.put, List.getElem_toArray, List.getElem_cons_zero, List.getElem_cons_succ, List.setIfInBounds_toArray, List.set_cons_zero, List.set_cons_succ]
                  refine anyZ_take 8 30 (v := rct mx my ma mb) rfl (by kernel_rfl) (fun _ _ _ h => h.elim) (Or.inl ⟨by rfl, fun wx hx => by obtain ⟨⟨p0, p1, p2, p3⟩, p4, p5, p6, p7⟩ := hx; clear HS; go_simp⟩) HS ?_
                  try simp only [Act.put, List.getElem_toArray, List.getElem_cons_zero, List.getElem_cons_succ, List.setIfInBounds_toArray, List.set_cons_zero, List.set_cons_succ]
                  refine anyZ_take 9 30 (v := .slice (some ⟨gl, 0, none⟩) PL.length lc) rfl (by kernel_rfl) (fun _ _ _ h => h.elim) (Or.inl ⟨by rfl, fun wx hx => by obtain ⟨⟨p0, p1, p2, p3⟩, p4, p5, p6, p7⟩ := hx; clear HS; go_simp⟩) HS ?_
                  try simp only [Act.put, List.getElem_toArray, List.getElem_cons_zero, List.getElem_cons_succ, List.setIfInBounds_toArray, List.set_cons_zero, List.set_cons_succ]
                  refine anyZ_take 10 30 (v := .int .i64 (i : Nat)) rfl (by kernel_rfl) (fun _ _ _ h => h.elim) (Or.inl ⟨by rfl, fun wx hx => by obtain ⟨⟨p0, p1, p2, p3⟩, p4, p5, p6, p7⟩ := hx; clear HS; go_simp⟩) HS ?_
                  try simp only [Act.put, List.getElem_toArray, List.getElem_cons_zero, List.getElem_cons_succ, List.setIfInBounds_toArray, List.set_cons_zero, List.set_cons_succ]
                  refine anyZ_take 11 30 (v := .pointer (some ⟨gl, i * 4, none⟩)) rfl (by kernel_rfl) (fun _ _ _ h => h.elim) (Or.inl ⟨by rfl, fun wx hx => by obtain ⟨⟨p0, p1, p2, p3⟩, p4, p5, p6, p7⟩ := hx; clear HS; go_simp⟩) HS ?_
                  try simp only [Act.put, List.getElem_toArray, List.getElem_cons_zero, List.getElem_cons_succ, List.setIfInBounds_toArray, List.set_cons_zero, List.set_cons_succ]
                  refine anyZ_take 12 30 (v := rct tx ty ta tb) rfl (by kernel_rfl) (fun _ _ _ h => h.elim) (Or.inl ⟨by rfl, fun wx hx => by obtain ⟨⟨p0, p1, p2, p3⟩, p4, p5, p6, p7⟩ := hx; clear HS; go_simp⟩) HS ?_
                  try simp only [Act.put, List.getElem_toArray, List.getElem_cons_zero, List.getElem_cons_succ, List.setIfInBounds_toArray, List.set_cons_zero, List.set_cons_succ]
                  refine anyZ_ready (rs := [13]) (by kernel_rfl) (by simp) ?_
                  refine readyZ.callG rfl (by rfl) (run_call34 (by rfl) (by rfl) (by simp only [List.map_toArray, List.map_cons, List.map_nil]; rfl)) (HLe.out _) ?_ readyZ.nil
                  rintro e Z ⟨rfl, hbZ'⟩
                  have hbZ : Below wi.heap.size wi Z := bt Hbk.out (Below.trans (Below.drew (Below.refl Z0.heap.size Z0)) hbZ')
                  have HSz : (fun wx : World => (wx.cell? ⟨g, k * 4, none⟩ = some (.int .i64 mx) ∧ wx.cell? ⟨g, k * 4 + 1, none⟩ = some (.int .i64 my) ∧ wx.cell? ⟨g, k * 4 + 2, none⟩ = some (.int .i64 ma) ∧ wx.cell? ⟨g, k * 4 + 3, none⟩ = some (.int .i64 mb)) ∧ wx.cell? ⟨gl, i * 4, none⟩ = some (.int .i64 tx) ∧ wx.cell? ⟨gl, i * 4 + 1, none⟩ = some (.int .i64 ty) ∧ wx.cell? ⟨gl, i * 4 + 2, none⟩ = some (.int .i64 ta) ∧ wx.cell? ⟨gl, i * 4 + 3, none⟩ = some (.int .i64 tb)) Z := by
                    obtain ⟨g', e', -, z0, z1, z2, z3⟩ := (HOi.out.row.upto hbZ).atq Hmk.out
                    cases e'
                    exact ⟨⟨z0, z1, z2, z3⟩, HSl.out Z (bt HYi.out hbZ)⟩
                  refine ⟨_, rfl, fun _ => HSz, ?_⟩
                  try simp only [Act.put, List.getElem_toArray, List.getElem_cons_zero, List.getElem_cons_succ, List.setIfInBounds_toArray, List.set_cons_zero, List.set_cons_succ]
                  refine anyZ_take 14 30 (v := .bool bq) rfl (by kernel_rfl) (fun _ _ _ h => h.elim) (Or.inl ⟨by rfl, fun wx hx => by clear HS HSz hx; go_simp⟩) HSz ?_
                  try simp only [Act.put, List.getElem_toArray, List.getElem_cons_zero, List.getElem_cons_succ, List.setIfInBounds_toArray, List.set_cons_zero, List.set_cons_succ]
                  refine anyZ_done (by kernel_rfl) ?_ _
                  dsimp only [Only, Exit.then]
                  have HbZ := hide hbZ
                  clear HS HSz hbZ hbZ' HLe Hbk
                  cases bq
                  · have hk2 : ∀ q r, M.drop k = q :: r → ¬ klt q ⟨tx, ty, ta, tb⟩ := fun q r e hq => by
                      have h1 : (M.drop k)[0]? = M[k]? := by rw [List.getElem?_drop, Nat.add_zero]
                      rw [e, Hmk.out] at h1
                      simp at h1
                      subst h1
                      have := (kltB_iff _ _).2 hq
                      rw [Hbq.out] at this
                      cases this
                    have HOz := hide (HOi.out.upto HbZ.out)
                    have HYz := hide (bt HYi.out HbZ.out)
                    clear Hmk Hbq HbZ HOi HYi
                    have HMs : Hid (SrtP M3 ∧ M3.Perm (base ++ PL.take (i + 1))) := hide ⟨by rw [← HM3.out]; exact put_srt HOz.out.srt HKl.out hk2, by
                      rw [← HM3.out]
                      refine (put_perm M ⟨tx, ty, ta, tb⟩ k).trans ?_
                      rw [HTk.out, ← List.append_assoc]
                      exact HPi.out.append_right _⟩
                    have hRd : Rq 64 Z.drew (.slice (some ⟨g, 0, none⟩) M.length oc) M := HOz.out.row
                    have Hcap := hide hRd.caps
                    have hSof : Hid (∀ Y : World, Below Z.drew.heap.size Z.drew Y → (fun wx : World => wx.cell? ⟨gl, i * 4, none⟩ = some (.int .i64 tx) ∧ wx.cell? ⟨gl, i * 4 + 1, none⟩ = some (.int .i64 ty) ∧ wx.cell? ⟨gl, i * 4 + 2, none⟩ = some (.int .i64 ta) ∧ wx.cell? ⟨gl, i * 4 + 3, none⟩ = some (.int .i64 tb)) Y) := hide fun Y q => HSl.out Y (bt HYz.out (Below.trans (Below.drew (Below.refl Z.heap.size Z)) q))
                    have hMl := HMl.out
                    have E1 := Pw.empty (Below.refl Z.drew.heap.size Z.drew)
                    obtain ⟨vA, WA, rA, uA, oA, gA⟩ := (hRd.upto E1.below).app_lo E1.us k Hk.out (by simp; omega)
                    have pA := E1.step uA gA oA
                    rw [List.nil_append] at pA
                    have pA2 := pA.alloc (.cells #[.int .i64 tx, .int .i64 ty, .int .i64 ta, .int .i64 tb] 64)
                    obtain ⟨v2A, W2A, v3A, W3A, r2A, r3A, b2A, p3A⟩ := put_tail (t := ⟨tx, ty, ta, tb⟩) hRd pA2 (Lone.new WA ⟨tx, ty, ta, tb⟩) Hk.out Hcap.out.1 (by omega)
                    have E2 := E1.alloc (.cells #[.int .i64 tx, .int .i64 ty, .int .i64 ta, .int .i64 tb] 64)
                    obtain ⟨vB, WB, rB, uB, oB, gB⟩ := (hRd.upto E2.below).app_lo E2.us k Hk.out (by simp; omega)
                    have pB := E2.step uB gB oB
                    rw [List.nil_append] at pB
                    obtain ⟨v2B, W2B, v3B, W3B, r2B, r3B, b2B, p3B⟩ := put_tail (t := ⟨tx, ty, ta, tb⟩) hRd pB ((Lone.new (Z.drew.alloc (.cells #[] 64)) ⟨tx, ty, ta, tb⟩).turned gB (by simp [Value.ownBlock])) Hk.out Hcap.out.1 (by omega)
                    have B2 : Below Z.drew.heap.size Z.drew (Z.drew.alloc (.cells #[.int .i64 tx, .int .i64 ty, .int .i64 ta, .int .i64 tb] 64)) := box1 _ _
                    have E3 := Pw.empty B2
                    obtain ⟨vC, WC, rC, uC, oC, gC⟩ := (hRd.upto E3.below).app_lo E3.us k Hk.out (by simp; omega)
                    have pC := E3.step uC gC oC
                    rw [List.nil_append] at pC
                    obtain ⟨v2C, W2C, v3C, W3C, r2C, r3C, b2C, p3C⟩ := put_tail (t := ⟨tx, ty, ta, tb⟩) hRd pC (((Lone.new Z.drew ⟨tx, ty, ta, tb⟩).alloc (.cells #[] 64)).turned gC (by simp [Value.ownBlock])) Hk.out Hcap.out.1 (by omega)
                    obtain ⟨had, hha⟩ : ∃ ad : Addr, (if oc = k then (⟨g, 0, none⟩ : Addr) else ⟨g, k * 4, none⟩) = ad := ⟨_, rfl⟩
                    rw [hha] at r3A r3B r3C
                    have Hha := hide hha
                    clear hha
                    have b1 := hide E1.below
                    have bA := hide pA.below
                    have bA2 := hide pA2.below
                    have b12 := hide E2.below
                    have bB := hide pB.below
                    have b2 := hide B2
                    have b21 := hide E3.below
                    have bC := hide pC.below
                    replace rA := hide rA
                    replace rB := hide rB
                    replace rC := hide rC
                    replace r2A := hide r2A
                    replace r2B := hide r2B
                    replace r2C := hide r2C
                    replace r3A := hide r3A
                    replace r3B := hide r3B
                    replace r3C := hide r3C
                    replace b2A := hide b2A
                    replace b2B := hide b2B
                    replace b2C := hide b2C
                    replace p3A := hide p3A
                    replace p3B := hide p3B
                    replace p3C := hide p3C
                    clear E1 E2 E3 B2 uA uB uC gA gB gC oA oB oC pA pA2 pB pC hRd
                    clear hMl hk2 HKl HTk HPi
                    go_wp2_with fail
                    refine wp_only ?_
                    refine wp_region_z (fun wx : World => wx.cell? ⟨gl, i * 4, none⟩ = some (.int .i64 tx) ∧ wx.cell? ⟨gl, i * 4 + 1, none⟩ = some (.int .i64 ty) ∧ wx.cell? ⟨gl, i * 4 + 2, none⟩ = some (.int .i64 ta) ∧ wx.cell? ⟨gl, i * 4 + 3, none⟩ = some (.int .i64 tb)) [] (by kernel_rfl) ?_
                    refine anyZ_take 1 40 (v := .slice (some ⟨g, 0, none⟩) M.length oc) rfl (by kernel_rfl) (fun _ _ _ h => h.elim) (Or.inl ⟨by rfl, fun wx hx => by obtain ⟨p0, p1, p2, p3⟩ := hx; go_simp⟩) (hSof.out _ (Below.refl _ _)) ?_
                    try simp only [Act.put, List.getElem_toArray, List.getElem_cons_zero, List.getElem_cons_succ, List.setIfInBounds_toArray, List.set_cons_zero, List.set_cons_succ]
                    refine anyZ_take 2 40 (v := .int .i64 (k : Nat)) rfl (by kernel_rfl) (fun _ _ _ h => h.elim) (Or.inl ⟨by rfl, fun wx hx => by obtain ⟨p0, p1, p2, p3⟩ := hx; go_simp⟩) (hSof.out _ (Below.refl _ _)) ?_
                    try simp only [Act.put, List.getElem_toArray, List.getElem_cons_zero, List.getElem_cons_succ, List.setIfInBounds_toArray, List.set_cons_zero, List.set_cons_succ]
                    refine anyZ_take 3 40 (v := .slice (some ⟨g, 0, none⟩) k oc) rfl (by kernel_rfl) (fun _ _ _ h => h.elim) (Or.inl ⟨by rfl, fun wx hx => run_below (by rfl) (by rfl) (by rfl) (Nat.le_trans Hk.out Hcap.out.1) Hcap.out.2⟩) (hSof.out _ (Below.refl _ _)) ?_
                    try simp only [Act.put, List.getElem_toArray, List.getElem_cons_zero, List.getElem_cons_succ, List.setIfInBounds_toArray, List.set_cons_zero, List.set_cons_succ]
                    refine anyZ_take 5 40 (v := .slice (some ⟨gl, 0, none⟩) PL.length lc) rfl (by kernel_rfl) (fun _ _ _ h => h.elim) (Or.inl ⟨by rfl, fun wx hx => by obtain ⟨p0, p1, p2, p3⟩ := hx; go_simp⟩) (hSof.out _ (Below.refl _ _)) ?_
                    try simp only [Act.put, List.getElem_toArray, List.getElem_cons_zero, List.getElem_cons_succ, List.setIfInBounds_toArray, List.set_cons_zero, List.set_cons_succ]
                    refine anyZ_take 6 40 (v := .int .i64 (i : Nat)) rfl (by kernel_rfl) (fun _ _ _ h => h.elim) (Or.inl ⟨by rfl, fun wx hx => by obtain ⟨p0, p1, p2, p3⟩ := hx; go_simp⟩) (hSof.out _ (Below.refl _ _)) ?_
                    try simp only [Act.put, List.getElem_toArray, List.getElem_cons_zero, List.getElem_cons_succ, List.setIfInBounds_toArray, List.set_cons_zero, List.set_cons_succ]
                    refine anyZ_take 7 40 (v := .pointer (some ⟨gl, i * 4, none⟩)) rfl (by kernel_rfl) (fun _ _ _ h => h.elim) (Or.inl ⟨by rfl, fun wx hx => by obtain ⟨p0, p1, p2, p3⟩ := hx; go_simp⟩) (hSof.out _ (Below.refl _ _)) ?_
                    try simp only [Act.put, List.getElem_toArray, List.getElem_cons_zero, List.getElem_cons_succ, List.setIfInBounds_toArray, List.set_cons_zero, List.set_cons_succ]
                    refine anyZ_take 8 40 (v := rct tx ty ta tb) rfl (by kernel_rfl) (fun _ _ _ h => h.elim) (Or.inl ⟨by rfl, fun wx hx => by obtain ⟨p0, p1, p2, p3⟩ := hx; go_simp⟩) (hSof.out _ (Below.refl _ _)) ?_
                    try simp only [Act.put, List.getElem_toArray, List.getElem_cons_zero, List.getElem_cons_succ, List.setIfInBounds_toArray, List.set_cons_zero, List.set_cons_succ]
                    refine anyZ_take 11 40 (v := .slice (some ⟨g, 0, none⟩) M.length oc) rfl (by kernel_rfl) (fun _ _ _ h => h.elim) (Or.inl ⟨by rfl, fun wx hx => by obtain ⟨p0, p1, p2, p3⟩ := hx; go_simp⟩) (hSof.out _ (Below.refl _ _)) ?_
                    try simp only [Act.put, List.getElem_toArray, List.getElem_cons_zero, List.getElem_cons_succ, List.setIfInBounds_toArray, List.set_cons_zero, List.set_cons_succ]
                    refine anyZ_take 12 40 (v := .int .i64 (k : Nat)) rfl (by kernel_rfl) (fun _ _ _ h => h.elim) (Or.inl ⟨by rfl, fun wx hx => by obtain ⟨p0, p1, p2, p3⟩ := hx; go_simp⟩) (hSof.out _ (Below.refl _ _)) ?_
                    try simp only [Act.put, List.getElem_toArray, List.getElem_cons_zero, List.getElem_cons_succ, List.setIfInBounds_toArray, List.set_cons_zero, List.set_cons_succ]
                    refine anyZ_take 13 40 (v := .slice (some had) (M.length - k) (oc - k)) rfl (by kernel_rfl) (fun _ _ _ h => h.elim) (Or.inl ⟨by rfl, fun wx hx => (by rw [← Hha.out]; exact run_beyond (by rfl) (by rfl) (by rfl) Hk.out Hcap.out.1 Hcap.out.2)⟩) (hSof.out _ (Below.refl _ _)) ?_
                    try simp only [Act.put, List.getElem_toArray, List.getElem_cons_zero, List.getElem_cons_succ, List.setIfInBounds_toArray, List.set_cons_zero, List.set_cons_succ]
                    refine anyZ_ready (rs := [0, 9]) (by kernel_rfl) (by simp) ?_
                    refine readyZ.cons rfl rfl (run_empty (by rfl)) (fun _ => hSof.out _ b1.out) ?_ ?_
                    · try simp only [Act.put, List.getElem_toArray, List.getElem_cons_zero, List.getElem_cons_succ, List.setIfInBounds_toArray, List.set_cons_zero, List.set_cons_succ]
                      refine anyZ_ready (rs := [4, 9]) (by kernel_rfl) (by simp) ?_
                      refine readyZ.cons rfl rfl (run_append (by rfl) (by rfl) (by rfl) rA.out) (fun _ => hSof.out _ bA.out) ?_ ?_
                      · try simp only [Act.put, List.getElem_toArray, List.getElem_cons_zero, List.getElem_cons_succ, List.setIfInBounds_toArray, List.set_cons_zero, List.set_cons_succ]
                        refine anyZ_ready (rs := [9]) (by kernel_rfl) (by simp) ?_
                        refine readyZ.cons rfl rfl (run_single (by rfl) (by rfl)) (fun _ => hSof.out _ bA2.out) ?_ readyZ.nil
                        try simp only [Act.put, List.getElem_toArray, List.getElem_cons_zero, List.getElem_cons_succ, List.setIfInBounds_toArray, List.set_cons_zero, List.set_cons_succ]
                        refine anyZ_ready (rs := [10]) (by kernel_rfl) (by simp) ?_
                        refine readyZ.cons rfl rfl (run_append (by rfl) (by rfl) (by rfl) r2A.out) (fun _ => hSof.out _ b2A.out) ?_ readyZ.nil
                        try simp only [Act.put, List.getElem_toArray, List.getElem_cons_zero, List.getElem_cons_succ, List.setIfInBounds_toArray, List.set_cons_zero, List.set_cons_succ]
                        refine anyZ_ready (rs := [14]) (by kernel_rfl) (by simp) ?_
                        refine readyZ.cons rfl rfl (run_append (by rfl) (by rfl) (by rfl) r3A.out) (fun _ => hSof.out _ p3A.out.below) ?_ readyZ.nil
                        try simp only [Act.put, List.getElem_toArray, List.getElem_cons_zero, List.getElem_cons_succ, List.setIfInBounds_toArray, List.set_cons_zero, List.set_cons_succ]
                        refine anyZ_ready (rs := [15]) (by kernel_rfl) (by simp) ?_
                        refine readyZ.cons rfl rfl (v' := v3A) (w' := W3A) (run_assign (by rfl) (by rfl)) (fun _ => hSof.out _ p3A.out.below) ?_ readyZ.nil
                        try simp only [Act.put, List.getElem_toArray, List.getElem_cons_zero, List.getElem_cons_succ, List.setIfInBounds_toArray, List.set_cons_zero, List.set_cons_succ]
                        refine anyZ_done (by kernel_rfl) ?_ _
                        dsimp only [Only, Exit.then]
                        obtain ⟨g3, c3, hv3⟩ := p3A.out.us.cons_some
                        rw [HM3.out] at p3A hv3
                        subst hv3
                        have HE : Hid (∃ (i' g' oc' : Nat) (M' : List Q4), (Value.slice (some ⟨g3, 0, none⟩) M3.length c3) = .slice (some ⟨g', 0, none⟩) M'.length oc' ∧ (Value.int .i64 (((i : Nat) : Int) + 1)) = .int .i64 (i' : Nat) ∧ i' ≤ PL.length ∧ Ot V W3A g' oc' M' ∧ M'.Perm (base ++ PL.take i') ∧ Below Y3.heap.size Y3 W3A) := hide ⟨i + 1, g3, c3, M3, rfl, by push_cast; rfl, hlt2, ⟨bt HOz.out.bl (Below.trans (Below.drew (Below.refl Z.heap.size Z)) p3A.out.below), p3A.out.us, HMs.out.1⟩, HMs.out.2, bt HYz.out (Below.trans (Below.drew (Below.refl Z.heap.size Z)) p3A.out.below)⟩
                        clear b1 bA bA2 b12 bB b2 b21 bC rA rB rC r2A r2B r2C r3A r3B r3C b2A b2B b2C p3A p3B p3C hSof HM3 HMs HOz HYz Hk Hcap Hha
                        go_wp2_with fail
                        go_roundw
                        case rel => first | exact HE.out | (obtain ⟨i', g', oc', M', h1, h2, h3⟩ := HE.out; simp only [Value.slice.injEq, Option.some.injEq, Addr.mk.injEq, and_true, Value.int.injEq, true_and] at h1 h2; exact ⟨i', g', oc', M', h1, h2, h3⟩)
                        case measure => simp [intOf]; omega
                      · refine readyZ.cons rfl rfl (run_single (by rfl) (by rfl)) (fun _ => hSof.out _ b12.out) ?_ readyZ.nil
                        try simp only [Act.put, List.getElem_toArray, List.getElem_cons_zero, List.getElem_cons_succ, List.setIfInBounds_toArray, List.set_cons_zero, List.set_cons_succ]
                        refine anyZ_ready (rs := [4]) (by kernel_rfl) (by simp) ?_
                        refine readyZ.cons rfl rfl (run_append (by rfl) (by rfl) (by rfl) rB.out) (fun _ => hSof.out _ bB.out) ?_ readyZ.nil
                        try simp only [Act.put, List.getElem_toArray, List.getElem_cons_zero, List.getElem_cons_succ, List.setIfInBounds_toArray, List.set_cons_zero, List.set_cons_succ]
                        refine anyZ_ready (rs := [10]) (by kernel_rfl) (by simp) ?_
                        refine readyZ.cons rfl rfl (run_append (by rfl) (by rfl) (by rfl) r2B.out) (fun _ => hSof.out _ b2B.out) ?_ readyZ.nil
                        try simp only [Act.put, List.getElem_toArray, List.getElem_cons_zero, List.getElem_cons_succ, List.setIfInBounds_toArray, List.set_cons_zero, List.set_cons_succ]
                        refine anyZ_ready (rs := [14]) (by kernel_rfl) (by simp) ?_
                        refine readyZ.cons rfl rfl (run_append (by rfl) (by rfl) (by rfl) r3B.out) (fun _ => hSof.out _ p3B.out.below) ?_ readyZ.nil
                        try simp only [Act.put, List.getElem_toArray, List.getElem_cons_zero, List.getElem_cons_succ, List.setIfInBounds_toArray, List.set_cons_zero, List.set_cons_succ]
                        refine anyZ_ready (rs := [15]) (by kernel_rfl) (by simp) ?_
                        refine readyZ.cons rfl rfl (v' := v3B) (w' := W3B) (run_assign (by rfl) (by rfl)) (fun _ => hSof.out _ p3B.out.below) ?_ readyZ.nil
                        try simp only [Act.put, List.getElem_toArray, List.getElem_cons_zero, List.getElem_cons_succ, List.setIfInBounds_toArray, List.set_cons_zero, List.set_cons_succ]
                        refine anyZ_done (by kernel_rfl) ?_ _
                        dsimp only [Only, Exit.then]
                        obtain ⟨g3, c3, hv3⟩ := p3B.out.us.cons_some
                        rw [HM3.out] at p3B hv3
                        subst hv3
                        have HE : Hid (∃ (i' g' oc' : Nat) (M' : List Q4), (Value.slice (some ⟨g3, 0, none⟩) M3.length c3) = .slice (some ⟨g', 0, none⟩) M'.length oc' ∧ (Value.int .i64 (((i : Nat) : Int) + 1)) = .int .i64 (i' : Nat) ∧ i' ≤ PL.length ∧ Ot V W3B g' oc' M' ∧ M'.Perm (base ++ PL.take i') ∧ Below Y3.heap.size Y3 W3B) := hide ⟨i + 1, g3, c3, M3, rfl, by push_cast; rfl, hlt2, ⟨bt HOz.out.bl (Below.trans (Below.drew (Below.refl Z.heap.size Z)) p3B.out.below), p3B.out.us, HMs.out.1⟩, HMs.out.2, bt HYz.out (Below.trans (Below.drew (Below.refl Z.heap.size Z)) p3B.out.below)⟩
                        clear b1 bA bA2 b12 bB b2 b21 bC rA rB rC r2A r2B r2C r3A r3B r3C b2A b2B b2C p3A p3B p3C hSof HM3 HMs HOz HYz Hk Hcap Hha
                        go_wp2_with fail
                        go_roundw
                        case rel => first | exact HE.out | (obtain ⟨i', g', oc', M', h1, h2, h3⟩ := HE.out; simp only [Value.slice.injEq, Option.some.injEq, Addr.mk.injEq, and_true, Value.int.injEq, true_and] at h1 h2; exact ⟨i', g', oc', M', h1, h2, h3⟩)
                        case measure => simp [intOf]; omega
                    · refine readyZ.cons rfl rfl (run_single (by rfl) (by rfl)) (fun _ => hSof.out _ b2.out) ?_ readyZ.nil
                      try simp only [Act.put, List.getElem_toArray, List.getElem_cons_zero, List.getElem_cons_succ, List.setIfInBounds_toArray, List.set_cons_zero, List.set_cons_succ]
                      refine anyZ_ready (rs := [0]) (by kernel_rfl) (by simp) ?_
                      refine readyZ.cons rfl rfl (run_empty (by rfl)) (fun _ => hSof.out _ b21.out) ?_ readyZ.nil
                      try simp only [Act.put, List.getElem_toArray, List.getElem_cons_zero, List.getElem_cons_succ, List.setIfInBounds_toArray, List.set_cons_zero, List.set_cons_succ]
                      refine anyZ_ready (rs := [4]) (by kernel_rfl) (by simp) ?_
                      refine readyZ.cons rfl rfl (run_append (by rfl) (by rfl) (by rfl) rC.out) (fun _ => hSof.out _ bC.out) ?_ readyZ.nil
                      try simp only [Act.put, List.getElem_toArray, List.getElem_cons_zero, List.getElem_cons_succ, List.setIfInBounds_toArray, List.set_cons_zero, List.set_cons_succ]
                      refine anyZ_ready (rs := [10]) (by kernel_rfl) (by simp) ?_
                      refine readyZ.cons rfl rfl (run_append (by rfl) (by rfl) (by rfl) r2C.out) (fun _ => hSof.out _ b2C.out) ?_ readyZ.nil
                      try simp only [Act.put, List.getElem_toArray, List.getElem_cons_zero, List.getElem_cons_succ, List.setIfInBounds_toArray, List.set_cons_zero, List.set_cons_succ]
                      refine anyZ_ready (rs := [14]) (by kernel_rfl) (by simp) ?_
                      refine readyZ.cons rfl rfl (run_append (by rfl) (by rfl) (by rfl) r3C.out) (fun _ => hSof.out _ p3C.out.below) ?_ readyZ.nil
                      try simp only [Act.put, List.getElem_toArray, List.getElem_cons_zero, List.getElem_cons_succ, List.setIfInBounds_toArray, List.set_cons_zero, List.set_cons_succ]
                      refine anyZ_ready (rs := [15]) (by kernel_rfl) (by simp) ?_
                      refine readyZ.cons rfl rfl (v' := v3C) (w' := W3C) (run_assign (by rfl) (by rfl)) (fun _ => hSof.out _ p3C.out.below) ?_ readyZ.nil
                      try simp only [Act.put, List.getElem_toArray, List.getElem_cons_zero, List.getElem_cons_succ, List.setIfInBounds_toArray, List.set_cons_zero, List.set_cons_succ]
                      refine anyZ_done (by kernel_rfl) ?_ _
                      dsimp only [Only, Exit.then]
                      obtain ⟨g3, c3, hv3⟩ := p3C.out.us.cons_some
                      rw [HM3.out] at p3C hv3
                      subst hv3
                      have HE : Hid (∃ (i' g' oc' : Nat) (M' : List Q4), (Value.slice (some ⟨g3, 0, none⟩) M3.length c3) = .slice (some ⟨g', 0, none⟩) M'.length oc' ∧ (Value.int .i64 (((i : Nat) : Int) + 1)) = .int .i64 (i' : Nat) ∧ i' ≤ PL.length ∧ Ot V W3C g' oc' M' ∧ M'.Perm (base ++ PL.take i') ∧ Below Y3.heap.size Y3 W3C) := hide ⟨i + 1, g3, c3, M3, rfl, by push_cast; rfl, hlt2, ⟨bt HOz.out.bl (Below.trans (Below.drew (Below.refl Z.heap.size Z)) p3C.out.below), p3C.out.us, HMs.out.1⟩, HMs.out.2, bt HYz.out (Below.trans (Below.drew (Below.refl Z.heap.size Z)) p3C.out.below)⟩
                      clear b1 bA bA2 b12 bB b2 b21 bC rA rB rC r2A r2B r2C r3A r3B r3C b2A b2B b2C p3A p3B p3C hSof HM3 HMs HOz HYz Hk Hcap Hha
                      go_wp2_with fail
                      go_roundw
                      case rel => first | exact HE.out | (obtain ⟨i', g', oc', M', h1, h2, h3⟩ := HE.out; simp only [Value.slice.injEq, Option.some.injEq, Addr.mk.injEq, and_true, Value.int.injEq, true_and] at h1 h2; exact ⟨i', g', oc', M', h1, h2, h3⟩)
                      case measure => simp [intOf]; omega
                  · have HE : Hid (∃ k' : Nat, (Value.int .i64 (((k : Nat) : Int) + 1)) = .int .i64 (k' : Nat) ∧ k' ≤ M.length ∧ (∀ a ∈ M.take k', klt a ⟨tx, ty, ta, tb⟩) ∧ Below wi.heap.size wi Z) := hide ⟨k + 1, by push_cast; rfl, hltk, (fun a ha => by
                      rw [take_at Hmk.out] at ha
                      rcases List.mem_append.1 ha with ha | ha
                      · exact HKl.out a ha
                      · simp at ha
                        subst ha
                        exact (kltB_iff _ _).1 Hbq.out), HbZ.out⟩
                    clear Hmk Hbq HbZ
                    go_wp2_with fail
                    go_roundw
                    case rel => exact HE.out
                    case measure => simp [intOf]; omega
                · have hlk : ¬ ((k : Nat) : Int) < (M.length : Nat) := by omega
                  have hlk' : decide (((k : Nat) : Int) < (M.length : Nat)) = false := decide_eq_false hlk
                  have hk2 : ∀ q r, M.drop k = q :: r → ¬ klt q ⟨tx, ty, ta, tb⟩ := fun q r e => by
                    rw [List.drop_eq_nil_of_le (by omega)] at e
                    cases e
                  have HS : (fun wx : World => True) Z0.drew := trivial
                  have Hbk := hide hbk
                  clear hbk
                  go_wp2_with fail
                  refine wp_only ?_
                  refine wp_region_z (fun wx : World => True) [] (by kernel_rfl) ?_
                  refine anyZ_take 0 30 (v := .int .i64 (k : Nat)) rfl (by kernel_rfl) (fun _ _ _ h => h.elim) (Or.inl ⟨by rfl, fun wx hx => by clear HS; go_simp⟩) HS ?_
                  try simp only [Act.put, List.getElem_toArray, List.getElem_cons_zero, List.getElem_cons_succ, List.setIfInBounds_toArray, List.set_cons_zero, List.set_cons_succ]
                  refine anyZ_take 1 30 (v := .slice (some ⟨g, 0, none⟩) M.length oc) rfl (by kernel_rfl) (fun _ _ _ h => h.elim) (Or.inl ⟨by rfl, fun wx hx => by clear HS; go_simp⟩) HS ?_
                  try simp only [Act.put, List.getElem_toArray, List.getElem_cons_zero, List.getElem_cons_succ, List.setIfInBounds_toArray, List.set_cons_zero, List.set_cons_succ]
                  refine anyZ_take 2 30 (v := .int .i64 (M.length : Nat)) rfl (by kernel_rfl) (fun _ _ _ h => h.elim) (Or.inl ⟨by rfl, fun wx hx => by clear HS; go_simp⟩) HS ?_
                  try simp only [Act.put, List.getElem_toArray, List.getElem_cons_zero, List.getElem_cons_succ, List.setIfInBounds_toArray, List.set_cons_zero, List.set_cons_succ]
                  refine anyZ_take 3 30 (v := .bool false) rfl (by kernel_rfl) (fun _ _ _ h => h.elim) (Or.inl ⟨by rfl, fun wx hx => by clear HS; go_simp⟩) HS ?_
                  try simp only [Act.put, List.getElem_toArray, List.getElem_cons_zero, List.getElem_cons_succ, List.setIfInBounds_toArray, List.set_cons_zero, List.set_cons_succ]
                  refine anyZ_take 4 30 (v := .bool false) rfl (by kernel_rfl) (fun _ _ _ h => h.elim) (Or.inl ⟨by rfl, fun wx hx => by clear HS; go_simp⟩) HS ?_
                  try simp only [Act.put, List.getElem_toArray, List.getElem_cons_zero, List.getElem_cons_succ, List.setIfInBounds_toArray, List.set_cons_zero, List.set_cons_succ]
                  refine anyZ_take 5 30 (v := undef) rfl (by kernel_rfl) (fun _ _ _ h => h.elim) (Or.inr ⟨by rfl, rfl⟩) HS ?_
                  try simp only [Act.put, List.getElem_toArray, List.getElem_cons_zero, List.getElem_cons_succ, List.setIfInBounds_toArray, List.set_cons_zero, List.set_cons_succ]
                  refine anyZ_take 6 30 (v := undef) rfl (by kernel_rfl) (fun _ _ _ h => h.elim) (Or.inr ⟨by rfl, rfl⟩) HS ?_
                  try simp only [Act.put, List.getElem_toArray, List.getElem_cons_zero, List.getElem_cons_succ, List.setIfInBounds_toArray, List.set_cons_zero, List.set_cons_succ]
                  refine anyZ_take 7 30 (v := undef) rfl (by kernel_rfl) (fun _ _ _ h => h.elim) (Or.inr ⟨by rfl, rfl⟩) HS ?_
                  try simp only [Act.put, List.getElem_toArray, List.getElem_cons_zero, List.getElem_cons_succ, List.setIfInBounds_toArray, List.set_cons_zero, List.set_cons_succ]
                  refine anyZ_take 8 30 (v := undef) rfl (by kernel_rfl) (fun _ _ _ h => h.elim) (Or.inr ⟨by rfl, rfl⟩) HS ?_
                  try simp only [Act.put, List.getElem_toArray, List.getElem_cons_zero, List.getElem_cons_succ, List.setIfInBounds_toArray, List.set_cons_zero, List.set_cons_succ]
                  refine anyZ_take 9 30 (v := undef) rfl (by kernel_rfl) (fun _ _ _ h => h.elim) (Or.inr ⟨by rfl, rfl⟩) HS ?_
                  try simp only [Act.put, List.getElem_toArray, List.getElem_cons_zero, List.getElem_cons_succ, List.setIfInBounds_toArray, List.set_cons_zero, List.set_cons_succ]
                  refine anyZ_take 10 30 (v := undef) rfl (by kernel_rfl) (fun _ _ _ h => h.elim) (Or.inr ⟨by rfl, rfl⟩) HS ?_
                  try simp only [Act.put, List.getElem_toArray, List.getElem_cons_zero, List.getElem_cons_succ, List.setIfInBounds_toArray, List.set_cons_zero, List.set_cons_succ]
                  refine anyZ_take 11 30 (v := undef) rfl (by kernel_rfl) (fun _ _ _ h => h.elim) (Or.inr ⟨by rfl, rfl⟩) HS ?_
                  try simp only [Act.put, List.getElem_toArray, List.getElem_cons_zero, List.getElem_cons_succ, List.setIfInBounds_toArray, List.set_cons_zero, List.set_cons_succ]
                  refine anyZ_take 12 30 (v := undef) rfl (by kernel_rfl) (fun _ _ _ h => h.elim) (Or.inr ⟨by rfl, rfl⟩) HS ?_
                  try simp only [Act.put, List.getElem_toArray, List.getElem_cons_zero, List.getElem_cons_succ, List.setIfInBounds_toArray, List.set_cons_zero, List.set_cons_succ]
                  refine anyZ_take 13 30 (v := undef) rfl (by kernel_rfl) (fun _ _ _ h => h.elim) (Or.inr ⟨by rfl, rfl⟩) HS ?_
                  try simp only [Act.put, List.getElem_toArray, List.getElem_cons_zero, List.getElem_cons_succ, List.setIfInBounds_toArray, List.set_cons_zero, List.set_cons_succ]
                  refine anyZ_take 14 30 (v := .bool false) rfl (by kernel_rfl) (fun _ _ _ h => h.elim) (Or.inl ⟨by rfl, fun wx hx => by clear HS; go_simp⟩) HS ?_
                  try simp only [Act.put, List.getElem_toArray, List.getElem_cons_zero, List.getElem_cons_succ, List.setIfInBounds_toArray, List.set_cons_zero, List.set_cons_succ]
                  refine anyZ_done (by kernel_rfl) ?_ _
                  dsimp only [Only, Exit.then]
                  obtain ⟨Z, hZ⟩ : ∃ Z, Z0.drew = Z := ⟨_, rfl⟩
                  have hbZ : Below wi.heap.size wi Z := by rw [← hZ]; exact Below.drew Hbk.out
                  have HOz := hide (HOi.out.upto hbZ)
                  have HYz := hide (bt HYi.out hbZ)
                  rw [hZ]
                  clear HS Hbk hbZ HOi HYi hZ hlk'
                  have HMs : Hid (SrtP M3 ∧ M3.Perm (base ++ PL.take (i + 1))) := hide ⟨by rw [← HM3.out]; exact put_srt HOz.out.srt HKl.out hk2, by
                    rw [← HM3.out]
                    refine (put_perm M ⟨tx, ty, ta, tb⟩ k).trans ?_
                    rw [HTk.out, ← List.append_assoc]
                    exact HPi.out.append_right _⟩
                  have hRd : Rq 64 Z.drew (.slice (some ⟨g, 0, none⟩) M.length oc) M := HOz.out.row
                  have Hcap := hide hRd.caps
                  have hSof : Hid (∀ Y : World, Below Z.drew.heap.size Z.drew Y → (fun wx : World => wx.cell? ⟨gl, i * 4, none⟩ = some (.int .i64 tx) ∧ wx.cell? ⟨gl, i * 4 + 1, none⟩ = some (.int .i64 ty) ∧ wx.cell? ⟨gl, i * 4 + 2, none⟩ = some (.int .i64 ta) ∧ wx.cell? ⟨gl, i * 4 + 3, none⟩ = some (.int .i64 tb)) Y) := hide fun Y q => HSl.out Y (bt HYz.out (Below.trans (Below.drew (Below.refl Z.heap.size Z)) q))
                  have hMl := HMl.out
                  have E1 := Pw.empty (Below.refl Z.drew.heap.size Z.drew)
                  obtain ⟨vA, WA, rA, uA, oA, gA⟩ := (hRd.upto E1.below).app_lo E1.us k Hk.out (by simp; omega)
                  have pA := E1.step uA gA oA
                  rw [List.nil_append] at pA
                  have pA2 := pA.alloc (.cells #[.int .i64 tx, .int .i64 ty, .int .i64 ta, .int .i64 tb] 64)
                  obtain ⟨v2A, W2A, v3A, W3A, r2A, r3A, b2A, p3A⟩ := put_tail (t := ⟨tx, ty, ta, tb⟩) hRd pA2 (Lone.new WA ⟨tx, ty, ta, tb⟩) Hk.out Hcap.out.1 (by omega)
                  have E2 := E1.alloc (.cells #[.int .i64 tx, .int .i64 ty, .int .i64 ta, .int .i64 tb] 64)
                  obtain ⟨vB, WB, rB, uB, oB, gB⟩ := (hRd.upto E2.below).app_lo E2.us k Hk.out (by simp; omega)
                  have pB := E2.step uB gB oB
                  rw [List.nil_append] at pB
                  obtain ⟨v2B, W2B, v3B, W3B, r2B, r3B, b2B, p3B⟩ := put_tail (t := ⟨tx, ty, ta, tb⟩) hRd pB ((Lone.new (Z.drew.alloc (.cells #[] 64)) ⟨tx, ty, ta, tb⟩).turned gB (by simp [Value.ownBlock])) Hk.out Hcap.out.1 (by omega)
                  have B2 : Below Z.drew.heap.size Z.drew (Z.drew.alloc (.cells #[.int .i64 tx, .int .i64 ty, .int .i64 ta, .int .i64 tb] 64)) := box1 _ _
                  have E3 := Pw.empty B2
                  obtain ⟨vC, WC, rC, uC, oC, gC⟩ := (hRd.upto E3.below).app_lo E3.us k Hk.out (by simp; omega)
                  have pC := E3.step uC gC oC
                  rw [List.nil_append] at pC
                  obtain ⟨v2C, W2C, v3C, W3C, r2C, r3C, b2C, p3C⟩ := put_tail (t := ⟨tx, ty, ta, tb⟩) hRd pC (((Lone.new Z.drew ⟨tx, ty, ta, tb⟩).alloc (.cells #[] 64)).turned gC (by simp [Value.ownBlock])) Hk.out Hcap.out.1 (by omega)
                  obtain ⟨had, hha⟩ : ∃ ad : Addr, (if oc = k then (⟨g, 0, none⟩ : Addr) else ⟨g, k * 4, none⟩) = ad := ⟨_, rfl⟩
                  rw [hha] at r3A r3B r3C
                  have Hha := hide hha
                  clear hha
                  have b1 := hide E1.below
                  have bA := hide pA.below
                  have bA2 := hide pA2.below
                  have b12 := hide E2.below
                  have bB := hide pB.below
                  have b2 := hide B2
                  have b21 := hide E3.below
                  have bC := hide pC.below
                  replace rA := hide rA
                  replace rB := hide rB
                  replace rC := hide rC
                  replace r2A := hide r2A
                  replace r2B := hide r2B
                  replace r2C := hide r2C
                  replace r3A := hide r3A
                  replace r3B := hide r3B
                  replace r3C := hide r3C
                  replace b2A := hide b2A
                  replace b2B := hide b2B
                  replace b2C := hide b2C
                  replace p3A := hide p3A
                  replace p3B := hide p3B
                  replace p3C := hide p3C
                  clear E1 E2 E3 B2 uA uB uC gA gB gC oA oB oC pA pA2 pB pC hRd
                  clear hMl hk2 HKl HTk HPi
                  go_wp2_with fail
                  refine wp_only ?_
                  refine wp_region_z (fun wx : World => wx.cell? ⟨gl, i * 4, none⟩ = some (.int .i64 tx) ∧ wx.cell? ⟨gl, i * 4 + 1, none⟩ = some (.int .i64 ty) ∧ wx.cell? ⟨gl, i * 4 + 2, none⟩ = some (.int .i64 ta) ∧ wx.cell? ⟨gl, i * 4 + 3, none⟩ = some (.int .i64 tb)) [] (by kernel_rfl) ?_
                  refine anyZ_take 1 40 (v := .slice (some ⟨g, 0, none⟩) M.length oc) rfl (by kernel_rfl) (fun _ _ _ h => h.elim) (Or.inl ⟨by rfl, fun wx hx => by obtain ⟨p0, p1, p2, p3⟩ := hx; go_simp⟩) (hSof.out _ (Below.refl _ _)) ?_
                  try simp only [Act.put, List.getElem_toArray, List.getElem_cons_zero, List.getElem_cons_succ, List.setIfInBounds_toArray, List.set_cons_zero, List.set_cons_succ]
                  refine anyZ_take 2 40 (v := .int .i64 (k : Nat)) rfl (by kernel_rfl) (fun _ _ _ h => h.elim) (Or.inl ⟨by rfl, fun wx hx => by obtain ⟨p0, p1, p2, p3⟩ := hx; go_simp⟩) (hSof.out _ (Below.refl _ _)) ?_
                  try simp only [Act.put, List.getElem_toArray, List.getElem_cons_zero, List.getElem_cons_succ, List.setIfInBounds_toArray, List.set_cons_zero, List.set_cons_succ]
                  refine anyZ_take 3 40 (v := .slice (some ⟨g, 0, none⟩) k oc) rfl (by kernel_rfl) (fun _ _ _ h => h.elim) (Or.inl ⟨by rfl, fun wx hx => run_below (by rfl) (by rfl) (by rfl) (Nat.le_trans Hk.out Hcap.out.1) Hcap.out.2⟩) (hSof.out _ (Below.refl _ _)) ?_
                  try simp only [Act.put, List.getElem_toArray, List.getElem_cons_zero, List.getElem_cons_succ, List.setIfInBounds_toArray, List.set_cons_zero, List.set_cons_succ]
                  refine anyZ_take 5 40 (v := .slice (some ⟨gl, 0, none⟩) PL.length lc) rfl (by kernel_rfl) (fun _ _ _ h => h.elim) (Or.inl ⟨by rfl, fun wx hx => by obtain ⟨p0, p1, p2, p3⟩ := hx; go_simp⟩) (hSof.out _ (Below.refl _ _)) ?_
                  try simp only [Act.put, List.getElem_toArray, List.getElem_cons_zero, List.getElem_cons_succ, List.setIfInBounds_toArray, List.set_cons_zero, List.set_cons_succ]
                  refine anyZ_take 6 40 (v := .int .i64 (i : Nat)) rfl (by kernel_rfl) (fun _ _ _ h => h.elim) (Or.inl ⟨by rfl, fun wx hx => by obtain ⟨p0, p1, p2, p3⟩ := hx; go_simp⟩) (hSof.out _ (Below.refl _ _)) ?_
                  try simp only [Act.put, List.getElem_toArray, List.getElem_cons_zero, List.getElem_cons_succ, List.setIfInBounds_toArray, List.set_cons_zero, List.set_cons_succ]
                  refine anyZ_take 7 40 (v := .pointer (some ⟨gl, i * 4, none⟩)) rfl (by kernel_rfl) (fun _ _ _ h => h.elim) (Or.inl ⟨by rfl, fun wx hx => by obtain ⟨p0, p1, p2, p3⟩ := hx; go_simp⟩) (hSof.out _ (Below.refl _ _)) ?_
                  try simp only [Act.put, List.getElem_toArray, List.getElem_cons_zero, List.getElem_cons_succ, List.setIfInBounds_toArray, List.set_cons_zero, List.set_cons_succ]
                  refine anyZ_take 8 40 (v := rct tx ty ta tb) rfl (by kernel_rfl) (fun _ _ _ h => h.elim) (Or.inl ⟨by rfl, fun wx hx => by obtain ⟨p0, p1, p2, p3⟩ := hx; go_simp⟩) (hSof.out _ (Below.refl _ _)) ?_
                  try simp only [Act.put, List.getElem_toArray, List.getElem_cons_zero, List.getElem_cons_succ, List.setIfInBounds_toArray, List.set_cons_zero, List.set_cons_succ]
                  refine anyZ_take 11 40 (v := .slice (some ⟨g, 0, none⟩) M.length oc) rfl (by kernel_rfl) (fun _ _ _ h => h.elim) (Or.inl ⟨by rfl, fun wx hx => by obtain ⟨p0, p1, p2, p3⟩ := hx; go_simp⟩) (hSof.out _ (Below.refl _ _)) ?_
                  try simp only [Act.put, List.getElem_toArray, List.getElem_cons_zero, List.getElem_cons_succ, List.setIfInBounds_toArray, List.set_cons_zero, List.set_cons_succ]
                  refine anyZ_take 12 40 (v := .int .i64 (k : Nat)) rfl (by kernel_rfl) (fun _ _ _ h => h.elim) (Or.inl ⟨by rfl, fun wx hx => by obtain ⟨p0, p1, p2, p3⟩ := hx; go_simp⟩) (hSof.out _ (Below.refl _ _)) ?_
                  try simp only [Act.put, List.getElem_toArray, List.getElem_cons_zero, List.getElem_cons_succ, List.setIfInBounds_toArray, List.set_cons_zero, List.set_cons_succ]
                  refine anyZ_take 13 40 (v := .slice (some had) (M.length - k) (oc - k)) rfl (by kernel_rfl) (fun _ _ _ h => h.elim) (Or.inl ⟨by rfl, fun wx hx => (by rw [← Hha.out]; exact run_beyond (by rfl) (by rfl) (by rfl) Hk.out Hcap.out.1 Hcap.out.2)⟩) (hSof.out _ (Below.refl _ _)) ?_
                  try simp only [Act.put, List.getElem_toArray, List.getElem_cons_zero, List.getElem_cons_succ, List.setIfInBounds_toArray, List.set_cons_zero, List.set_cons_succ]
                  refine anyZ_ready (rs := [0, 9]) (by kernel_rfl) (by simp) ?_
                  refine readyZ.cons rfl rfl (run_empty (by rfl)) (fun _ => hSof.out _ b1.out) ?_ ?_
                  · try simp only [Act.put, List.getElem_toArray, List.getElem_cons_zero, List.getElem_cons_succ, List.setIfInBounds_toArray, List.set_cons_zero, List.set_cons_succ]
                    refine anyZ_ready (rs := [4, 9]) (by kernel_rfl) (by simp) ?_
                    refine readyZ.cons rfl rfl (run_append (by rfl) (by rfl) (by rfl) rA.out) (fun _ => hSof.out _ bA.out) ?_ ?_
                    · try simp only [Act.put, List.getElem_toArray, List.getElem_cons_zero, List.getElem_cons_succ, List.setIfInBounds_toArray, List.set_cons_zero, List.set_cons_succ]
                      refine anyZ_ready (rs := [9]) (by kernel_rfl) (by simp) ?_
                      refine readyZ.cons rfl rfl (run_single (by rfl) (by rfl)) (fun _ => hSof.out _ bA2.out) ?_ readyZ.nil
                      try simp only [Act.put, List.getElem_toArray, List.getElem_cons_zero, List.getElem_cons_succ, List.setIfInBounds_toArray, List.set_cons_zero, List.set_cons_succ]
                      refine anyZ_ready (rs := [10]) (by kernel_rfl) (by simp) ?_
                      refine readyZ.cons rfl rfl (run_append (by rfl) (by rfl) (by rfl) r2A.out) (fun _ => hSof.out _ b2A.out) ?_ readyZ.nil
                      try simp only [Act.put, List.getElem_toArray, List.getElem_cons_zero, List.getElem_cons_succ, List.setIfInBounds_toArray, List.set_cons_zero, List.set_cons_succ]
                      refine anyZ_ready (rs := [14]) (by kernel_rfl) (by simp) ?_
                      refine readyZ.cons rfl rfl (run_append (by rfl) (by rfl) (by rfl) r3A.out) (fun _ => hSof.out _ p3A.out.below) ?_ readyZ.nil
                      try simp only [Act.put, List.getElem_toArray, List.getElem_cons_zero, List.getElem_cons_succ, List.setIfInBounds_toArray, List.set_cons_zero, List.set_cons_succ]
                      refine anyZ_ready (rs := [15]) (by kernel_rfl) (by simp) ?_
                      refine readyZ.cons rfl rfl (v' := v3A) (w' := W3A) (run_assign (by rfl) (by rfl)) (fun _ => hSof.out _ p3A.out.below) ?_ readyZ.nil
                      try simp only [Act.put, List.getElem_toArray, List.getElem_cons_zero, List.getElem_cons_succ, List.setIfInBounds_toArray, List.set_cons_zero, List.set_cons_succ]
                      refine anyZ_done (by kernel_rfl) ?_ _
                      dsimp only [Only, Exit.then]
                      obtain ⟨g3, c3, hv3⟩ := p3A.out.us.cons_some
                      rw [HM3.out] at p3A hv3
                      subst hv3
                      have HE : Hid (∃ (i' g' oc' : Nat) (M' : List Q4), (Value.slice (some ⟨g3, 0, none⟩) M3.length c3) = .slice (some ⟨g', 0, none⟩) M'.length oc' ∧ (Value.int .i64 (((i : Nat) : Int) + 1)) = .int .i64 (i' : Nat) ∧ i' ≤ PL.length ∧ Ot V W3A g' oc' M' ∧ M'.Perm (base ++ PL.take i') ∧ Below Y3.heap.size Y3 W3A) := hide ⟨i + 1, g3, c3, M3, rfl, by push_cast; rfl, hlt2, ⟨bt HOz.out.bl (Below.trans (Below.drew (Below.refl Z.heap.size Z)) p3A.out.below), p3A.out.us, HMs.out.1⟩, HMs.out.2, bt HYz.out (Below.trans (Below.drew (Below.refl Z.heap.size Z)) p3A.out.below)⟩
                      clear b1 bA bA2 b12 bB b2 b21 bC rA rB rC r2A r2B r2C r3A r3B r3C b2A b2B b2C p3A p3B p3C hSof HM3 HMs HOz HYz Hk Hcap Hha
                      go_wp2_with fail
                      go_roundw
                      case rel => first | exact HE.out | (obtain ⟨i', g', oc', M', h1, h2, h3⟩ := HE.out; simp only [Value.slice.injEq, Option.some.injEq, Addr.mk.injEq, and_true, Value.int.injEq, true_and] at h1 h2; exact ⟨i', g', oc', M', h1, h2, h3⟩)
                      case measure => simp [intOf]; omega
                    · refine readyZ.cons rfl rfl (run_single (by rfl) (by rfl)) (fun _ => hSof.out _ b12.out) ?_ readyZ.nil
                      try simp only [Act.put, List.getElem_toArray, List.getElem_cons_zero, List.getElem_cons_succ, List.setIfInBounds_toArray, List.set_cons_zero, List.set_cons_succ]
                      refine anyZ_ready (rs := [4]) (by kernel_rfl) (by simp) ?_
                      refine readyZ.cons rfl rfl (run_append (by rfl) (by rfl) (by rfl) rB.out) (fun _ => hSof.out _ bB.out) ?_ readyZ.nil
                      try simp only [Act.put, List.getElem_toArray, List.getElem_cons_zero, List.getElem_cons_succ, List.setIfInBounds_toArray, List.set_cons_zero, List.set_cons_succ]
                      refine anyZ_ready (rs := [10]) (by kernel_rfl) (by simp) ?_
                      refine readyZ.cons rfl rfl (run_append (by rfl) (by rfl) (by rfl) r2B.out) (fun _ => hSof.out _ b2B.out) ?_ readyZ.nil
                      try simp only [Act.put, List.getElem_toArray, List.getElem_cons_zero, List.getElem_cons_succ, List.setIfInBounds_toArray, List.set_cons_zero, List.set_cons_succ]
                      refine anyZ_ready (rs := [14]) (by kernel_rfl) (by simp) ?_
                      refine readyZ.cons rfl rfl (run_append (by rfl) (by rfl) (by rfl) r3B.out) (fun _ => hSof.out _ p3B.out.below) ?_ readyZ.nil
                      try simp only [Act.put, List.getElem_toArray, List.getElem_cons_zero, List.getElem_cons_succ, List.setIfInBounds_toArray, List.set_cons_zero, List.set_cons_succ]
                      refine anyZ_ready (rs := [15]) (by kernel_rfl) (by simp) ?_
                      refine readyZ.cons rfl rfl (v' := v3B) (w' := W3B) (run_assign (by rfl) (by rfl)) (fun _ => hSof.out _ p3B.out.below) ?_ readyZ.nil
                      try simp only [Act.put, List.getElem_toArray, List.getElem_cons_zero, List.getElem_cons_succ, List.setIfInBounds_toArray, List.set_cons_zero, List.set_cons_succ]
                      refine anyZ_done (by kernel_rfl) ?_ _
                      dsimp only [Only, Exit.then]
                      obtain ⟨g3, c3, hv3⟩ := p3B.out.us.cons_some
                      rw [HM3.out] at p3B hv3
                      subst hv3
                      have HE : Hid (∃ (i' g' oc' : Nat) (M' : List Q4), (Value.slice (some ⟨g3, 0, none⟩) M3.length c3) = .slice (some ⟨g', 0, none⟩) M'.length oc' ∧ (Value.int .i64 (((i : Nat) : Int) + 1)) = .int .i64 (i' : Nat) ∧ i' ≤ PL.length ∧ Ot V W3B g' oc' M' ∧ M'.Perm (base ++ PL.take i') ∧ Below Y3.heap.size Y3 W3B) := hide ⟨i + 1, g3, c3, M3, rfl, by push_cast; rfl, hlt2, ⟨bt HOz.out.bl (Below.trans (Below.drew (Below.refl Z.heap.size Z)) p3B.out.below), p3B.out.us, HMs.out.1⟩, HMs.out.2, bt HYz.out (Below.trans (Below.drew (Below.refl Z.heap.size Z)) p3B.out.below)⟩
                      clear b1 bA bA2 b12 bB b2 b21 bC rA rB rC r2A r2B r2C r3A r3B r3C b2A b2B b2C p3A p3B p3C hSof HM3 HMs HOz HYz Hk Hcap Hha
                      go_wp2_with fail
                      go_roundw
                      case rel => first | exact HE.out | (obtain ⟨i', g', oc', M', h1, h2, h3⟩ := HE.out; simp only [Value.slice.injEq, Option.some.injEq, Addr.mk.injEq, and_true, Value.int.injEq, true_and] at h1 h2; exact ⟨i', g', oc', M', h1, h2, h3⟩)
                      case measure => simp [intOf]; omega
                  · refine readyZ.cons rfl rfl (run_single (by rfl) (by rfl)) (fun _ => hSof.out _ b2.out) ?_ readyZ.nil
                    try simp only [Act.put, List.getElem_toArray, List.getElem_cons_zero, List.getElem_cons_succ, List.setIfInBounds_toArray, List.set_cons_zero, List.set_cons_succ]
                    refine anyZ_ready (rs := [0]) (by kernel_rfl) (by simp) ?_
                    refine readyZ.cons rfl rfl (run_empty (by rfl)) (fun _ => hSof.out _ b21.out) ?_ readyZ.nil
                    try simp only [Act.put, List.getElem_toArray, List.getElem_cons_zero, List.getElem_cons_succ, List.setIfInBounds_toArray, List.set_cons_zero, List.set_cons_succ]
                    refine anyZ_ready (rs := [4]) (by kernel_rfl) (by simp) ?_
                    refine readyZ.cons rfl rfl (run_append (by rfl) (by rfl) (by rfl) rC.out) (fun _ => hSof.out _ bC.out) ?_ readyZ.nil
                    try simp only [Act.put, List.getElem_toArray, List.getElem_cons_zero, List.getElem_cons_succ, List.setIfInBounds_toArray, List.set_cons_zero, List.set_cons_succ]
                    refine anyZ_ready (rs := [10]) (by kernel_rfl) (by simp) ?_
                    refine readyZ.cons rfl rfl (run_append (by rfl) (by rfl) (by rfl) r2C.out) (fun _ => hSof.out _ b2C.out) ?_ readyZ.nil
                    try simp only [Act.put, List.getElem_toArray, List.getElem_cons_zero, List.getElem_cons_succ, List.setIfInBounds_toArray, List.set_cons_zero, List.set_cons_succ]
                    refine anyZ_ready (rs := [14]) (by kernel_rfl) (by simp) ?_
                    refine readyZ.cons rfl rfl (run_append (by rfl) (by rfl) (by rfl) r3C.out) (fun _ => hSof.out _ p3C.out.below) ?_ readyZ.nil
                    try simp only [Act.put, List.getElem_toArray, List.getElem_cons_zero, List.getElem_cons_succ, List.setIfInBounds_toArray, List.set_cons_zero, List.set_cons_succ]
                    refine anyZ_ready (rs := [15]) (by kernel_rfl) (by simp) ?_
                    refine readyZ.cons rfl rfl (v' := v3C) (w' := W3C) (run_assign (by rfl) (by rfl)) (fun _ => hSof.out _ p3C.out.below) ?_ readyZ.nil
                    try simp only [Act.put, List.getElem_toArray, List.getElem_cons_zero, List.getElem_cons_succ, List.setIfInBounds_toArray, List.set_cons_zero, List.set_cons_succ]
                    refine anyZ_done (by kernel_rfl) ?_ _
                    dsimp only [Only, Exit.then]
                    obtain ⟨g3, c3, hv3⟩ := p3C.out.us.cons_some
                    rw [HM3.out] at p3C hv3
                    subst hv3
                    have HE : Hid (∃ (i' g' oc' : Nat) (M' : List Q4), (Value.slice (some ⟨g3, 0, none⟩) M3.length c3) = .slice (some ⟨g', 0, none⟩) M'.length oc' ∧ (Value.int .i64 (((i : Nat) : Int) + 1)) = .int .i64 (i' : Nat) ∧ i' ≤ PL.length ∧ Ot V W3C g' oc' M' ∧ M'.Perm (base ++ PL.take i') ∧ Below Y3.heap.size Y3 W3C) := hide ⟨i + 1, g3, c3, M3, rfl, by push_cast; rfl, hlt2, ⟨bt HOz.out.bl (Below.trans (Below.drew (Below.refl Z.heap.size Z)) p3C.out.below), p3C.out.us, HMs.out.1⟩, HMs.out.2, bt HYz.out (Below.trans (Below.drew (Below.refl Z.heap.size Z)) p3C.out.below)⟩
                    clear b1 bA bA2 b12 bB b2 b21 bC rA rB rC r2A r2B r2C r3A r3B r3C b2A b2B b2C p3A p3B p3C hSof HM3 HMs HOz HYz Hk Hcap Hha
                    go_wp2_with fail
                    go_roundw
                    case rel => first | exact HE.out | (obtain ⟨i', g', oc', M', h1, h2, h3⟩ := HE.out; simp only [Value.slice.injEq, Option.some.injEq, Addr.mk.injEq, and_true, Value.int.injEq, true_and] at h1 h2; exact ⟨i', g', oc', M', h1, h2, h3⟩)
                    case measure => simp [intOf]; omega
            · have hlii : ¬ ((i : Nat) : Int) < (PL.length : Nat) := by omega
              have hie : i = PL.length := by omega
              have HE : Hid (∃ (x' g' oc' : Nat) (M' : List Q4), (Value.slice (some ⟨g, 0, none⟩) M.length oc) = .slice (some ⟨g', 0, none⟩) M'.length oc' ∧ (Value.int .i64 (((x : Nat) : Int) + 1)) = .int .i64 (x' : Nat) ∧ x' ≤ aN ∧ Ot V wi g' oc' M' ∧ M'.Perm ((kl aN (y * aN + x')).flatMap (both2 S wd ht))) := hide ⟨x + 1, g, oc, M, rfl, by push_cast; rfl, hltx, hO, by rw [Hnx.out]; rw [hie, List.take_length] at hPi; exact hPi⟩
              clear hO hPi hYi hie
              go_wp2_with fail
              go_roundw
              case rel => exact HE.out
              case measure => simp [intOf]; omega
        · have hlx : ¬ ((x : Nat) : Int) ≤ wb := by omega
          have hxe : x = aN := by omega
          have HE : Hid (∃ (y' g' oc' : Nat) (M' : List Q4), (Value.slice (some ⟨g, 0, none⟩) M.length oc) = .slice (some ⟨g', 0, none⟩) M'.length oc' ∧ (Value.int .i64 (((y : Nat) : Int) + 1)) = .int .i64 (y' : Nat) ∧ y' ≤ bN ∧ Ot V wx0 g' oc' M' ∧ M'.Perm ((kl aN (y' * aN)).flatMap (both2 S wd ht))) := hide ⟨y + 1, g, oc, M, rfl, by push_cast; rfl, hlt, HO.out, by rw [Nat.succ_mul]; rw [← hxe]; have := HP.out; exact (by rw [hxe] at this ⊢; exact this)⟩
          clear hbe HO HP hxe
          go_wp2_with fail
          refine (HDw.out _).mono ?_
          rintro e w' ⟨rfl, hw'⟩; have hw2 := hw'.symm; clear hw'; subst hw2
          clear c0 c1 c2
          go_wp2_with fail
          go_roundw
          case rel => exact HE.out
          case measure => simp [intOf]; omega
    · have hli : ¬ ((y : Nat) : Int) ≤ hb := by omega
      have hye : y = bN := by omega
      have HE : Hid (∃ lv M', Ending.returned (Value.slice (some ⟨g, 0, none⟩) M.length oc) = .returned lv ∧ M'.Perm ((kl aN (bN * aN)).flatMap (both2 S wd ht)) ∧ SrtP M' ∧ Rq 64 wy lv M' ∧ Below w.heap.size w wy) := hide ⟨_, M, rfl, by rw [← hye]; exact HP.out, HO.out.srt, HO.out.row, bt HB0.out HO.out.bl⟩
      clear hbe HO HP hye
      go_wp2_with fail
      refine (HDh.out _).mono ?_
      rintro e w' ⟨rfl, hw'⟩; have hw2 := hw'.symm; clear hw'; subst hw2
      clear c0 c1 c2
      go_wp2_with fail
      refine bodyPost_ret (v := .slice (some ⟨g, 0, none⟩) M.length oc) (by simp [results, Tryz.results15, go_sem]) rfl ?_
      exact HE.out
end Go.Proofs.YtkjogcnoaipniaaGreatDoor
namespace Go.Proofs.YtkjogcnoaipniaaGreatDoor
open Go.RowKit Go.Shelf
set_option linter.unusedVariables false
set_option linter.unusedSimpArgs false
attribute [local go_sem] Oper.semAt_some
theorem run_call14 {ev : Operand → Value} {o : Oper} {w : World} {ar : Array Operand} {ts : Array TypeId} {vs : Array Value} (hop : o.op = .call { callee := .value (.func 14), args := ar, argTypes := ts }) (hf : ev (.func 14) = .func (.func 14) #[] #[]) (hvs : ar.map ev = vs) : (execOp ev o).run Tryz.prog w = .ok (.enter 14 vs) w := by
  unfold execOp
  simp only [hop, resolve, hf, hvs]
  go_simp
theorem run_call8 {ev : Operand → Value} {o : Oper} {w : World} {ar : Array Operand} {ts : Array TypeId} {vs : Array Value} (hop : o.op = .call { callee := .value (.func 8), args := ar, argTypes := ts }) (hf : ev (.func 8) = .func (.func 8) #[] #[]) (hvs : ar.map ev = vs) : (execOp ev o).run Tryz.prog w = .ok (.enter 8 vs) w := by
  unfold execOp
  simp only [hop, resolve, hf, hvs]
  go_simp
theorem run_call15 {ev : Operand → Value} {o : Oper} {w : World} {ar : Array Operand} {ts : Array TypeId} {vs : Array Value} (hop : o.op = .call { callee := .value (.func 15), args := ar, argTypes := ts }) (hf : ev (.func 15) = .func (.func 15) #[] #[]) (hvs : ar.map ev = vs) : (execOp ev o).run Tryz.prog w = .ok (.enter 15 vs) w := by
  unfold execOp
  simp only [hop, resolve, hf, hvs]
  go_simp
theorem run_call7 {ev : Operand → Value} {o : Oper} {w : World} {ar : Array Operand} {ts : Array TypeId} {vs : Array Value} (hop : o.op = .call { callee := .value (.func 7), args := ar, argTypes := ts }) (hf : ev (.func 7) = .func (.func 7) #[] #[]) (hvs : ar.map ev = vs) : (execOp ev o).run Tryz.prog w = .ok (.enter 7 vs) w := by
  unfold execOp
  simp only [hop, resolve, hf, hvs]
  go_simp
set_option maxRecDepth 100000 in
set_option maxHeartbeats 8000000 in
theorem allw_is (W H : Int) (tv bv : Value) (tl : List Nat) (L : List Bd) (c s : Int) (w : World) (hv : TlR w tv tl) (hb : ∀ x ∈ tl, x < 256) (hl : BdR w bv L) (hg : Grnd w) (ho : Offs w) :
    Calls Tryz.prog 4 #[mp W H tv bv, shv c s] w fun e w' => e = .returned (.bool true) ∧ Below w.heap.size w w' := by
  obtain ⟨X, hX⟩ : ∃ X, (w.alloc (.cells #[.int .i64 W, .int .i64 H, tv, bv] 25)).alloc (.cells #[.int .i64 c, .int .i64 s] 27) = X := ⟨_, rfl⟩
  have B0 : Below w.heap.size w X := hX ▸ box2 _ _ _
  have M0 : MB X w.heap.size W H tv bv := by rw [← hX]; exact (MB.new w W H tv bv).kept (box1 _ _)
  have T0 : Two X (w.heap.size + 1) c s := by rw [← hX]; exact Two.newAt (by simp)
  have HAw : Hid (∀ wx, Below w.heap.size w wx → Calls Tryz.prog 7 #[] wx fun e w' => e = .returned (.bool true) ∧ Below wx.heap.size wx w') := hide fun wx q => awake_is wx (hg.kept q) (ho.kept q)
  have HX := hide hX
  have HB0 := hide B0
  have Hgo := hide (And.intro hg ho)
  have hvf := hv
  have hlf := hl
  obtain ⟨sa1, cap1, rfl, -⟩ := hvf
  obtain ⟨sa2, cap2, rfl, -⟩ := hlf
  obtain ⟨m0, m1, m2, m3⟩ := M0.c
  rcases chkC_two W H tl L with hc | hc
  · obtain ⟨wd, ht, rfl, rfl, hd⟩ := dims_is hc
    have HBo := hide (both_ok wd ht _ _ tl L X (hv.kept B0) hb (hl.kept B0) hc)
    obtain ⟨NN, hNN⟩ : ∃ e, ((wd : Nat) : Int) * ((ht : Nat) : Int) = e := ⟨_, rfl⟩
    have hnb : 0 ≤ NN ∧ NN ≤ 16384 := by
      rw [← hNN]
      have h1 := Nat.mul_le_mul hd.1.2 hd.2.2
      have h2 : ((wd : Nat) : Int) * ((ht : Nat) : Int) = ((wd * ht : Nat) : Int) := by push_cast; rfl
      omega
    have hwm : IntKind.i64.wrap (((wd : Nat) : Int) * ((ht : Nat) : Int)) = NN := by rw [hNN, IntKind.wrap_i64]; omega
    clear hX B0 hv hl hb hg ho hc hNN hnb
    go_enter Tryz.func4, Tryz.ntmps4
    go_wp2_with fail
    rw [HX.out]
    refine HBo.out.mono ?_
    rintro e w1 ⟨p, r, rfl, hWn, hRl, hb1⟩
    have HW1 := hide hWn.1
    have HR1 := hide hRl
    have HB1 := hide hb1
    have T1 := T0.kept hb1
    obtain ⟨u0, u1, u2, u3⟩ := (M0.kept hb1).c
    clear hWn hRl hb1 T0 m0 m1 m2 m3 HBo HX M0
    by_cases hA : 2000 < NN
    · clear T1 HW1 HR1 Hgo
      go_wp2_with fail
      refine (HAw.out _ (bt HB0.out HB1.out)).mono ?_
      rintro e w9 ⟨rfl, hb9⟩
      have HE := hide (bt (bt HB0.out HB1.out) hb9)
      clear hb9
      go_wp2_with fail
      go_ret
      exact ⟨rfl, HE.out⟩
    · have hS4 : ∀ wx, Below w1.heap.size w1 wx → (fun wx : World => wx.cell? ⟨w.heap.size + 1, 0, none⟩ = some (.int .i64 c) ∧ wx.cell? ⟨w.heap.size + 1, 1, none⟩ = some (.int .i64 s)) wx := fun wx q => (T1.kept q).1
      have HK := hide hS4
      have HS := HK.out _ (Below.drew (Below.refl w1.heap.size w1))
      have hdI : (1 : Int) ≤ (wd : Nat) ∧ ((wd : Nat) : Int) ≤ 128 := by omega
      have hdJ : (1 : Int) ≤ (ht : Nat) ∧ ((ht : Nat) : Int) ≤ 128 := by omega
      have hSt : ∀ u v, stB wd ht tl (whoF L) c s u v = true → (0 ≤ u ∧ u < (wd : Nat)) ∧ 0 ≤ v ∧ v < (ht : Nat) := fun u v h => st_in hdI hdJ u v h
      have HSt := hide hSt
      have HdI := hide (And.intro hdI hdJ)
      clear hS4 T1 hSt hdI hdJ
      go_wp2_with fail
      clear u0 u1 u2 u3 hwm
      refine wp_only ?_
      refine wp_region_z (fun wx : World => wx.cell? ⟨w.heap.size + 1, 0, none⟩ = some (.int .i64 c) ∧ wx.cell? ⟨w.heap.size + 1, 1, none⟩ = some (.int .i64 s)) [] (by kernel_rfl) ?_
      refine anyZ_take 0 30 (v := ptr p) rfl (by kernel_rfl) (fun _ _ _ h => h.elim) (Or.inl ⟨by rfl, fun wx hx => by obtain ⟨p0, p1⟩ := hx; clear HS; go_simp⟩) HS ?_
      try simp only [Act.put, List.getElem_toArray, List.getElem_cons_zero, List.getElem_cons_succ, List.setIfInBounds_toArray, List.set_cons_zero, List.set_cons_succ]
      refine anyZ_take 1 30 (v := shv c s) rfl (by kernel_rfl) (fun _ _ _ h => h.elim) (Or.inl ⟨by rfl, fun wx hx => by obtain ⟨p0, p1⟩ := hx; clear HS; go_simp⟩) HS ?_
      try simp only [Act.put, List.getElem_toArray, List.getElem_cons_zero, List.getElem_cons_succ, List.setIfInBounds_toArray, List.set_cons_zero, List.set_cons_succ]
      refine anyZ_take 3 30 (v := ptr r) rfl (by kernel_rfl) (fun _ _ _ h => h.elim) (Or.inl ⟨by rfl, fun wx hx => by obtain ⟨p0, p1⟩ := hx; clear HS; go_simp⟩) HS ?_
      try simp only [Act.put, List.getElem_toArray, List.getElem_cons_zero, List.getElem_cons_succ, List.setIfInBounds_toArray, List.set_cons_zero, List.set_cons_succ]
      refine anyZ_take 4 30 (v := shv c s) rfl (by kernel_rfl) (fun _ _ _ h => h.elim) (Or.inl ⟨by rfl, fun wx hx => by obtain ⟨p0, p1⟩ := hx; clear HS; go_simp⟩) HS ?_
      try simp only [Act.put, List.getElem_toArray, List.getElem_cons_zero, List.getElem_cons_succ, List.setIfInBounds_toArray, List.set_cons_zero, List.set_cons_succ]
      refine anyZ_ready (rs := [2]) (by kernel_rfl) (by simp) ?_
      refine readyZ.call rfl rfl (run_call14 (by rfl) (by rfl) (by simp only [List.map_toArray, List.map_cons, List.map_nil]; rfl)) (pall_is c s (HW1.out.kept (Below.drew (Below.refl w1.heap.size w1))) (Hgo.out.1.kept (bt HB0.out (Below.drew HB1.out))) (Hgo.out.2.kept (bt HB0.out (Below.drew HB1.out))) HSt.out) ?_ readyZ.nil
      rintro e Y1 ⟨lv1, L1, rfl, hp1, hs1, row1, hbY1', -⟩
      have hbY1 : Below w1.heap.size w1 Y1 := Below.trans (Below.drew (Below.refl w1.heap.size w1)) hbY1'
      have HS1 := HK.out _ hbY1
      refine ⟨_, rfl, fun _ => HS1, ?_⟩
      try simp only [Act.put, List.getElem_toArray, List.getElem_cons_zero, List.getElem_cons_succ, List.setIfInBounds_toArray, List.set_cons_zero, List.set_cons_succ]
      refine anyZ_ready (rs := [5]) (by kernel_rfl) (by simp) ?_
      refine readyZ.call rfl rfl (run_call8 (by rfl) (by rfl) (by simp only [List.map_toArray, List.map_cons, List.map_nil]; rfl)) (of_gr c s (HR1.out.kept hbY1) hd rfl) ?_ readyZ.nil
      rintro e Y2 ⟨iv, rfl, hiv, hbY2⟩
      have HS2 := HK.out _ (bt hbY1 hbY2)
      refine ⟨_, rfl, fun _ => HS2, ?_⟩
      obtain ⟨a, cap, hivf, -, -⟩ := Rw.form cB_len hiv
      obtain ⟨n, hn⟩ : ∃ n, ((List.range (wd * ht)).map (fun k => stB wd ht tl (whoF L) c s ((k % wd : Nat) : Int) ((k / wd : Nat) : Int))).length = n := ⟨_, rfl⟩
      rw [hn] at hivf
      subst hivf
      try simp only [Act.put, List.getElem_toArray, List.getElem_cons_zero, List.getElem_cons_succ, List.setIfInBounds_toArray, List.set_cons_zero, List.set_cons_succ]
      refine anyZ_ready (rs := [6]) (by kernel_rfl) (by simp) ?_
      refine readyZ.call rfl rfl (run_call15 (by rfl) (by rfl) (by simp only [List.map_toArray, List.map_cons, List.map_nil]; rfl)) (dports_is hd (stB wd ht tl (whoF L) c s) a n cap (fun wx q kx ky d => dbet_is _ kx ky d a n cap HdI.out.1 HdI.out.2 HSt.out (dst_is hd rfl (hiv.upto q) d))) ?_ readyZ.nil
      rintro e Y3 ⟨lv3, M3, rfl, hp3, hs3, row3, hbY3⟩
      have HS3 := HK.out _ (bt hbY1 (bt hbY2 hbY3))
      have hLM : L1 = M3 := by
        rw [allK_kl hd] at hp1
        exact srt_one (hp1.trans hp3.symm) hs1 hs3
      subst hLM
      have hln : L1.length ≤ 1000000 := by
        have h1 := hp3.length_eq
        have h2 := both2_len (stB wd ht tl (whoF L) c s) wd ht (kl ((wd - 1) / 8 + 1) (((ht - 1) / 8 + 1) * ((wd - 1) / 8 + 1)))
        rw [show (kl ((wd - 1) / 8 + 1) (((ht - 1) / 8 + 1) * ((wd - 1) / 8 + 1))).length = ((ht - 1) / 8 + 1) * ((wd - 1) / 8 + 1) by simp [kl]] at h2
        have h3 : ((ht - 1) / 8 + 1) * ((wd - 1) / 8 + 1) ≤ 16 * 16 := Nat.mul_le_mul (by omega) (by omega)
        omega
      refine ⟨_, rfl, fun _ => HS3, ?_⟩
      try simp only [Act.put, List.getElem_toArray, List.getElem_cons_zero, List.getElem_cons_succ, List.setIfInBounds_toArray, List.set_cons_zero, List.set_cons_succ]
      refine anyZ_ready (rs := [7]) (by kernel_rfl) (by simp) ?_
      refine readyZ.call rfl rfl (run_call11 (by rfl) (by rfl) (by simp only [List.map_toArray, List.map_cons, List.map_nil]; rfl)) (same_yes hln ((row1.upto hbY2).upto hbY3) row3) ?_ readyZ.nil
      rintro e Y4 ⟨rfl, hbY4⟩
      have hbF := bt hbY1 (bt hbY2 (bt hbY3 hbY4))
      have HS4 := HK.out _ hbF
      refine ⟨_, rfl, fun _ => HS4, ?_⟩
      try simp only [Act.put, List.getElem_toArray, List.getElem_cons_zero, List.getElem_cons_succ, List.setIfInBounds_toArray, List.set_cons_zero, List.set_cons_succ]
      have HbF := hide (bt HB0.out (bt HB1.out hbF))
      have HbG := hide hbF
      clear HS HS1 HS2 HS3 row1 row3 hp1 hp3 hs1 hs3 hiv hbY1 hbY1' hbY2 hbY3 hbY4 hbF hln hn
      refine anyZ_take 8 30 (v := .bool true) rfl (by kernel_rfl) (fun _ _ _ h => h.elim) (Or.inl ⟨by rfl, fun wx hx => by obtain ⟨p0, p1⟩ := hx; clear HS4; go_simp⟩) HS4 ?_
      try simp only [Act.put, List.getElem_toArray, List.getElem_cons_zero, List.getElem_cons_succ, List.setIfInBounds_toArray, List.set_cons_zero, List.set_cons_succ]
      refine anyZ_ready (rs := [9]) (by kernel_rfl) (by simp) ?_
      refine readyZ.callG rfl (by rfl) (run_call7 (by rfl) (by rfl) (by simp only [List.map_toArray, List.map_nil])) (HAw.out _ HbF.out) ?_ readyZ.nil
      rintro e Y5 ⟨rfl, hbY5⟩
      have HS5 := HK.out _ (bt HbG.out hbY5)
      refine ⟨_, rfl, fun _ => HS5, ?_⟩
      try simp only [Act.put, List.getElem_toArray, List.getElem_cons_zero, List.getElem_cons_succ, List.setIfInBounds_toArray, List.set_cons_zero, List.set_cons_succ]
      refine anyZ_take 10 30 (v := .bool true) rfl (by kernel_rfl) (fun _ _ _ h => h.elim) (Or.inl ⟨by rfl, fun wx hx => by obtain ⟨p0, p1⟩ := hx; clear HS5; go_simp⟩) HS5 ?_
      try simp only [Act.put, List.getElem_toArray, List.getElem_cons_zero, List.getElem_cons_succ, List.setIfInBounds_toArray, List.set_cons_zero, List.set_cons_succ]
      refine anyZ_ready (rs := [11]) (by kernel_rfl) (by simp) ?_
      refine readyZ.cons rfl rfl (v' := .bool true) (w' := Y5) (run_assign (by rfl) (by rfl)) (fun _ => HS5) ?_ readyZ.nil
      try simp only [Act.put, List.getElem_toArray, List.getElem_cons_zero, List.getElem_cons_succ, List.setIfInBounds_toArray, List.set_cons_zero, List.set_cons_succ]
      refine anyZ_done (by kernel_rfl) ?_ _
      dsimp only [Only, Exit.then]
      have HE := hide (bt HbF.out hbY5)
      clear HS4 HS5 hbY5
      go_wp2_with fail
      go_ret
      exact ⟨rfl, HE.out⟩
  · have HBo := hide (both_no W H _ _ tl L X (hv.kept B0) hb (hl.kept B0) hc)
    clear hX B0 hv hl hb hg ho hc M0 T0 Hgo
    go_enter Tryz.func4, Tryz.ntmps4
    go_wp2_with fail
    rw [HX.out]
    refine HBo.out.mono ?_
    rintro e w1 ⟨rfl, hb1⟩
    have HB1 := hide hb1
    clear m0 m1 m2 m3 HBo hb1
    go_wp2_with fail
    refine (HAw.out _ (bt HB0.out HB1.out)).mono ?_
    rintro e w9 ⟨rfl, hb9⟩
    have HE := hide (bt (bt HB0.out HB1.out) hb9)
    clear hb9
    go_wp2_with fail
    go_ret
    exact ⟨rfl, HE.out⟩
end Go.Proofs.YtkjogcnoaipniaaGreatDoor
