/-
  Pop and Top.
-/
import Derived.Test.YtdhiomahcilffaaPu
namespace Go.Proofs.Ytdhiomahcilffaa
open Go.RowKit
set_option linter.unusedVariables false
set_option linter.unusedSimpArgs false
theorem Its.set0 {w : World} {g cap : Nat} {l : List It} (h : Its w (.slice (some ⟨g, 0, none⟩) l.length cap) l) (hj : 0 < l.length) (t : It) :
    Its (((w.setCell ⟨g, 0, none⟩ (.int .i64 t.k)).setCell ⟨g, 1, none⟩ (.int .i64 t.n)).setCell ⟨g, 2, none⟩ (.int .i64 t.p)) (.slice (some ⟨g, 0, none⟩) l.length cap) (l.set 0 t) := by
  have := h.set hj t
  simpa using this
theorem Its.take {w : World} {g cap q : Nat} {l : List It} (h : Its w (.slice (some ⟨g, 0, none⟩) l.length cap) l) (hq : l.length = q + 1) : Its w (.slice (some ⟨g, 0, none⟩) q cap) (l.take q) := by
  have e : l.flatMap It.cs = (l.take q).flatMap It.cs ++ (l.drop q).flatMap It.cs := by rw [← List.flatMap_append, List.take_append_drop]
  have hl : (l.take q).length = q := by simp; omega
  unfold Its at h ⊢
  rw [hq, e] at h
  rw [hl]
  exact ownsRow_pop (by rw [cs_len, hl]) h
theorem pop_take {l : List It} {q : Nat} (t : It) (hq : l.length = q + 1) : ((l.set 0 (nth l q)).set q t).take q = pop l := by
  unfold pop
  rw [List.take_set_of_le (by omega), hq]
  simp
/-- A box with a key and a number. -/
def B2 (w : World) (x : Nat) (k n : Int) : Prop := w.heap[x]? = some (.cells #[.int .i64 k, .int .i64 n] 26 (0, 0))
theorem B2.new (w : World) (k n : Int) : B2 (w.alloc (.cells #[.int .i64 k, .int .i64 n] 26)) w.heap.size k n := heap_alloc_new w _
theorem B2.kept {w w' : World} {x : Nat} {k n : Int} {S : Nat → Prop} (h : B2 w x k n) (ht : Turns S w w') (hs : ¬ S x) : B2 w' x k n := ht.same hs h
theorem B2.upto {w w' : World} {x : Nat} {k n : Int} (h : B2 w x k n) (hb : Below w.heap.size w w') : B2 w' x k n := h.kept (S := NoB) (Turns.of_below hb) id
theorem B2.c {w : World} {x : Nat} {k n : Int} (h : B2 w x k n) : w.cell? ⟨x, 0, none⟩ = some (.int .i64 k) ∧ w.cell? ⟨x, 1, none⟩ = some (.int .i64 n) := ⟨cell_of_row w x 0 _ _ _ h, cell_of_row w x 1 _ _ _ h⟩
theorem B2.f {w : World} {x : Nat} {k n : Int} (h : B2 w x k n) (j : Nat) : w.frozen? ⟨x, j, none⟩ = false := by
  have h' : w.heap[x]? = _ := h
  simp [World.frozen?, h']
theorem B2.ne_row {w : World} {x : Nat} {k n : Int} (h : B2 w x k n) {u : Value} {e : TypeId} {s m : Nat} {xs : List Value} (hv : w.ownsRow 0 e s u m xs) (he : e ≠ 26) : u.ownBlock ≠ some x := by
  intro hh
  rcases hv.2 with ⟨rfl, _⟩ | ⟨g, cap, cur, rfl, hb, hg, _⟩
  · simp [Value.ownBlock] at hh
  · simp [Value.ownBlock] at hh
    subst hh
    rw [show w.heap[g]? = _ from h] at hg
    simp at hg
    exact he hg.2.symm
theorem pop_no (b : Nat) (a : Option Addr) (cap : Nat) (n : Int) (q : Bool) (w : World) (h : Hp w b (.slice a 0 cap) n q) :
    Calls Try.prog 13 #[ptr b] w fun e w' => e = .returned (.tuple #[itv 0 0, .bool false]) ∧ Below w.heap.size w w' := by
  have HL := hide (len_any b a 0 cap n q _ (h.upto (box1 w (.cells #[.int .i64 0, .int .i64 0] 26))))
  go_enter Try.func13, Try.ntmps13
  go_wp2_with (go_at_call 12; refine HL.out.mono ?_; rintro e w1 ⟨rfl, rfl⟩)
  refine bodyPost_ret (v := .tuple #[itv 0 0, .bool false]) (by simp [results, Try.results13, go_sem]) rfl ⟨rfl, box2 _ _ _⟩
theorem top_no (b : Nat) (a : Option Addr) (cap : Nat) (n : Int) (q : Bool) (w : World) (h : Hp w b (.slice a 0 cap) n q) :
    Calls Try.prog 11 #[ptr b] w fun e w' => e = .returned (.tuple #[itv 0 0, .bool false]) ∧ Below w.heap.size w w' := by
  have HL := hide (len_any b a 0 cap n q _ (h.upto (box1 w (.cells #[.int .i64 0, .int .i64 0] 26))))
  go_enter Try.func11, Try.ntmps11
  go_wp2_with (go_at_call 12; refine HL.out.mono ?_; rintro e w1 ⟨rfl, rfl⟩)
  refine bodyPost_ret (v := .tuple #[itv 0 0, .bool false]) (by simp [results, Try.results11, go_sem]) rfl ⟨rfl, box2 _ _ _⟩
theorem top_yes (b : Nat) (v : Value) (n : Int) (q : Bool) (l : List It) (w : World) (h : Hp w b v n q) (hv : Its w v l) (hl : 0 < l.length) :
    Calls Try.prog 11 #[ptr b] w fun e w' => e = .returned (.tuple #[itv (nth l 0).k (nth l 0).n, .bool true]) ∧ Below w.heap.size w w' := by
  have B0 : Below w.heap.size w (w.alloc (.cells #[.int .i64 0, .int .i64 0] 26)) := box1 _ _
  have x0 : B2 (w.alloc (.cells #[.int .i64 0, .int .i64 0] 26)) w.heap.size 0 0 := B2.new w 0 0
  obtain ⟨X, hX⟩ : ∃ X, w.alloc (.cells #[.int .i64 0, .int .i64 0] 26) = X := ⟨_, rfl⟩
  rw [hX] at B0 x0
  have hpX := h.upto B0
  have hvX := hv.upto B0
  obtain ⟨g, cap, rfl, hcap, hmax, hg⟩ := hvX.form hl
  have HL := hide (len_any b _ _ cap n q _ hpX)
  have c1 : X.cell? ⟨b, 1, none⟩ = some (.slice (some ⟨g, 0, none⟩) l.length cap) := hpX.c 1
  obtain ⟨⟨s0, s1, s2⟩, hf⟩ := hvX.at (nth_get hl)
  obtain ⟨y0, y1⟩ := x0.c
  have f0 := x0.f 0
  have f1 := x0.f 1
  simp only [Nat.zero_mul, Nat.zero_add] at s0 s1 s2
  have hne : ¬ ((l.length : Nat) : Int) = 0 := by omega
  have hpos : (0 : Int) < (l.length : Nat) := by omega
  have HX := hide hX
  clear hX h hv hpX hvX
  generalize nth l 0 = t at *
  go_enter Try.func11, Try.ntmps11
  go_wp2_with (first | rw [HX.out] | (go_at_call 12; refine HL.out.mono ?_; rintro e w1 ⟨rfl, hw1⟩; have hw2 := hw1.symm; subst hw2))
  refine bodyPost_ret (v := .tuple #[itv t.k t.n, .bool true]) (by simp [results, Try.results11, go_sem, y0, y1]) rfl ⟨rfl, ?_⟩
  exact (B0.setCell (Nat.le_refl _) _).setCell (Nat.le_refl _) _
/-- What Pop leaves. -/
def Popped (w : World) (b : Nat) (v : Value) (n : Int) (S : List It) (t : It) (w' : World) : Prop :=
  ∃ v' S', S.Perm (t :: S') ∧ (∀ u ∈ S, lt u t = false) ∧ Hs w' b v' n S' ∧ Turns (fun k => k = b ∨ v.ownBlock = some k) w w' ∧ ∀ k, v'.ownBlock = some k → v.ownBlock = some k
set_option maxRecDepth 100000 in
set_option maxHeartbeats 2000000 in
theorem pop_yes (b : Nat) (v : Value) (n : Int) (S : List It) (w : World) (h : Hs w b v n S) (hl : 0 < S.length) (hlen : S.length ≤ 1152921504606846976) :
    Calls Try.prog 13 #[ptr b] w fun e w' => ∃ t, e = .returned (.tuple #[itv t.k t.n, .bool true]) ∧ Popped w b v n S t w' := by
  obtain ⟨l, hp, hv, hH, hS⟩ := h
  have hll : l.length = S.length := hS.length_eq
  obtain ⟨q, hq⟩ : ∃ q, l.length = q + 1 := ⟨l.length - 1, by omega⟩
  have hl0 : 0 < l.length := by omega
  have B0 : Below w.heap.size w (w.alloc (.cells #[.int .i64 0, .int .i64 0] 26)) := box1 _ _
  have x0 : B2 (w.alloc (.cells #[.int .i64 0, .int .i64 0] 26)) w.heap.size 0 0 := B2.new w 0 0
  obtain ⟨X, hX⟩ : ∃ X, w.alloc (.cells #[.int .i64 0, .int .i64 0] 26) = X := ⟨_, rfl⟩
  rw [hX] at B0 x0
  have hpX := hp.upto B0
  have hvX := hv.upto B0
  have hgb := hpX.ne_row hvX (by decide)
  have hgx := x0.ne_row hvX (by decide)
  have hvw : ∀ k, v.ownBlock = some k → k < w.heap.size := fun k e => by
    rcases hv.2 with ⟨rfl, _⟩ | ⟨g, cap, cur, rfl, _, hg, _⟩
    · simp [Value.ownBlock] at e
    · simp [Value.ownBlock] at e; subst e; exact (Array.getElem?_eq_some_iff.1 hg).1
  obtain ⟨g, cap, rfl, hcap, hmax, hg⟩ := hvX.form hl0
  have hgw := hvw g rfl
  have hpl := hp.lt
  have hgb' : g ≠ b := fun e => hgb (by rw [e]; rfl)
  have HL := hide (len_any b _ _ cap n false _ hpX)
  have HT := hide (turns_any b _ n false _ hpX)
  have c1 : X.cell? ⟨b, 1, none⟩ = some (.slice (some ⟨g, 0, none⟩) l.length cap) := hpX.c 1
  obtain ⟨⟨s0, s1, s2⟩, hf⟩ := hvX.at (nth_get hl0)
  simp only [Nat.zero_mul, Nat.zero_add] at s0 s1 s2
  have hne : ¬ ((l.length : Nat) : Int) = 0 := by omega
  have hpos : (0 : Int) < (l.length : Nat) := by omega
  have hqi : ((l.length : Nat) : Int) - 1 = (q : Nat) := by omega
  have hql : (q : Int) < (l.length : Nat) := by omega
  have hqc : (q : Int) ≤ (cap : Nat) := by omega
  have hqw : IntKind.i64.wrap ((q : Nat) : Int) = (q : Nat) := by rw [IntKind.wrap_i64]; omega
  -- region 4: the top's box
  obtain ⟨t, ht⟩ : ∃ t, nth l 0 = t := ⟨_, rfl⟩
  rw [ht] at s0 s1 s2
  have hkp : ∀ {wx : World}, Below X.heap.size X wx → (wx.cell? ⟨b, 1, none⟩ = some (.slice (some ⟨g, 0, none⟩) l.length cap) ∧ wx.cell? ⟨g, 0, none⟩ = some (.int .i64 t.k) ∧ wx.cell? ⟨g, 1, none⟩ = some (.int .i64 t.n)) := fun {wx} hb =>
    ⟨(hb.cell (World.block_lt_of_cell? X _ c1)).trans c1, (hb.cell (World.block_lt_of_cell? X _ s0)).trans s0, (hb.cell (World.block_lt_of_cell? X _ s1)).trans s1⟩
  have HKp := @hkp
  -- region 5, 6, 7: the row
  have B1 : Below X.heap.size X (X.alloc (.cells #[.int .i64 t.k, .int .i64 t.n] 26)) := box1 _ _
  have x1 : B2 (X.alloc (.cells #[.int .i64 t.k, .int .i64 t.n] 26)) X.heap.size t.k t.n := B2.new X _ _
  obtain ⟨Y, hY⟩ : ∃ Y, X.alloc (.cells #[.int .i64 t.k, .int .i64 t.n] 26) = Y := ⟨_, rfl⟩
  rw [hY] at B1 x1
  have x0Y := x0.upto B1
  have hpY := hpX.upto B1
  have hvY := hvX.upto B1
  have d1 : Y.cell? ⟨b, 1, none⟩ = some (.slice (some ⟨g, 0, none⟩) l.length cap) := hpY.c 1
  obtain ⟨⟨p0, p1, p2⟩, hfY⟩ := hvY.at (nth_get (i := q) (by omega))
  obtain ⟨z, hz⟩ : ∃ z, nth l q = z := ⟨_, rfl⟩
  rw [hz] at p0 p1 p2
  obtain ⟨⟨o0, o1, o2⟩, -⟩ := hvY.at (nth_get hl0)
  simp only [Nat.zero_mul, Nat.zero_add, ht] at o0 o1 o2
  have hvZ := hvY.set0 hl0 z
  have T1 := turns_set3 Y g 0 1 2 (.int .i64 z.k) (.int .i64 z.n) (.int .i64 z.p)
  have e1 : (l.set 0 z).length = l.length := List.length_set
  obtain ⟨Z, hZ⟩ : ∃ Z, ((Y.setCell ⟨g, 0, none⟩ (.int .i64 z.k)).setCell ⟨g, 1, none⟩ (.int .i64 z.n)).setCell ⟨g, 2, none⟩ (.int .i64 z.p) = Z := ⟨_, rfl⟩
  rw [hZ] at hvZ T1
  have hvZ' : Its Z (.slice (some ⟨g, 0, none⟩) (l.set 0 z).length cap) (l.set 0 z) := by rw [e1]; exact hvZ
  have hpZ := hpY.kept T1 (fun e => hgb' e.symm)
  have d2 : Z.cell? ⟨b, 1, none⟩ = some (.slice (some ⟨g, 0, none⟩) l.length cap) := hpZ.c 1
  obtain ⟨u, hu⟩ : ∃ u, (l.set 0 z)[q]? = some u := ⟨_, List.getElem?_eq_getElem (by rw [e1]; omega)⟩
  obtain ⟨⟨r0, r1, r2⟩, hfZ⟩ := hvZ'.at hu
  have hvU := (hvZ'.set (j := q) (by rw [e1]; omega) ⟨0, 0, 0⟩)
  have T2 := turns_set3 Z g (q * 3) (q * 3 + 1) (q * 3 + 2) (.int .i64 0) (.int .i64 0) (.int .i64 0)
  obtain ⟨U, hU⟩ : ∃ U, ((Z.setCell ⟨g, q * 3, none⟩ (.int .i64 0)).setCell ⟨g, q * 3 + 1, none⟩ (.int .i64 0)).setCell ⟨g, q * 3 + 2, none⟩ (.int .i64 0) = U := ⟨_, rfl⟩
  rw [hU] at T2
  have hvU' : Its U (.slice (some ⟨g, 0, none⟩) ((l.set 0 z).set q ⟨0, 0, 0⟩).length cap) ((l.set 0 z).set q ⟨0, 0, 0⟩) := by
    rw [List.length_set, ← hU]; exact hvU
  have hvT := hvU'.take (q := q) (by rw [List.length_set, e1]; exact hq)
  rw [← hz, pop_take _ hq] at hvT
  have hpU := hpZ.kept T2 (fun e => hgb' e.symm)
  have d3 : U.cell? ⟨b, 1, none⟩ = some (.slice (some ⟨g, 0, none⟩) l.length cap) := hpU.c 1
  have d3f := hpU.f 1
  have hpV := hpU.set1 (.slice (some ⟨g, 0, none⟩) q cap)
  have T3 : Turns (fun k => k = b) U (U.setCell ⟨b, 1, none⟩ (.slice (some ⟨g, 0, none⟩) q cap)) := Turns.set (S := fun k => k = b) U (p := ⟨b, 1, none⟩) rfl _
  have hvV := hvT.kept T3 (fun k e c => by subst c; simp [Value.ownBlock] at e; exact hgb' e)
  have hHi := High.pop hH
  obtain ⟨V, hV⟩ : ∃ V, U.setCell ⟨b, 1, none⟩ (.slice (some ⟨g, 0, none⟩) q cap) = V := ⟨_, rfl⟩
  rw [hV] at hpV hvV T3
  have HSk := hide (sink_is b _ n (pop l) V.drew.drew hpV hvV (by rw [pop_len]; omega) hHi)
  have TV : Turns (fun k => k = b ∨ (Value.slice (some ⟨g, 0, none⟩) l.length cap).ownBlock = some k) w V :=
    (((Turns.of_below (bt B0 B1)).trans (T1.mono (fun k _ e => .inl (.inr (by rw [show k = g from e]; rfl))))).trans (T2.mono (fun k _ e => .inl (.inr (by rw [show k = g from e]; rfl))))).trans (T3.mono (fun k _ e => .inl (.inl e)))
  have hXs : w.heap.size < X.heap.size := Nat.lt_of_lt_of_le (by simp) (Nat.le_of_eq (congrArg (fun w => w.heap.size) hX))
  have hYs := B1.size
  have x0V : B2 V w.heap.size 0 0 := ((x0Y.kept T1 (by omega)).kept T2 (by omega)).kept T3 (by omega)
  have x1V : B2 V X.heap.size t.k t.n := ((x1.kept T1 (by omega)).kept T2 (by omega)).kept T3 (by omega)
  have HFin : Hid (∀ w4 l', Heap l' → Kp V.drew.drew b (.slice (some ⟨g, 0, none⟩) q cap) n (pop l) l' w4 → ∀ w5, Turns (fun k => k = w.heap.size) w4 w5 → Popped w b (.slice (some ⟨g, 0, none⟩) l.length cap) n S t w5) := hide fun w4 l' hH4 hk4 w5 ht5 => by
    obtain ⟨k1, k2, k3, k4⟩ := hk4
    refine ⟨.slice (some ⟨g, 0, none⟩) q cap, pop l, ?_, fun u hu' => ?_, ⟨l', k3.kept ht5 (by omega), k1.kept ht5 (fun k e c => ?_), hH4, k2⟩, ?_, fun k e => e⟩
    · exact hS.symm.trans (ht ▸ pop_perm hl0)
    · exact ht ▸ hH.least (hS.mem_iff.2 hu')
    · subst c; simp [Value.ownBlock] at e; omega
    · exact (TV.trans (k4.undrew.undrew.mono (fun k _ e => .inl (.inr e)))).trans (ht5.mono (fun k hk e => .inr (Nat.le_of_eq e.symm)))
  have HXe := hide hX
  have HYe := hide hY
  have HZe := hide hZ
  have HUe := hide hU
  have HVe := hide hV
  have HKB : Hid (∀ w4 l', Kp V.drew.drew b (.slice (some ⟨g, 0, none⟩) q cap) n (pop l) l' w4 → B2 w4 w.heap.size 0 0 ∧ B2 w4 X.heap.size t.k t.n) := hide fun w4 l' hk => ⟨x0V.kept hk.2.2.2.undrew.undrew (by simp [Value.ownBlock]; omega), x1V.kept hk.2.2.2.undrew.undrew (by simp [Value.ownBlock]; omega)⟩
  have f0Y := hfY 0
  have f1Y := hfY 1
  have f2Y := hfY 2
  have HX5 : (Y.cell? ⟨b, 1, none⟩ = some (.slice (some ⟨g, 0, none⟩) l.length cap)) := d1
  clear hX hY hZ hU hV hv hp hpX hvX hpY hvY hvZ hvZ' hpZ hvU hvU' hvT hpU hpV hvV hHi hH hS TV T1 T2 T3 x0 x1 x0Y x0V x1V hkp hvw B0 hu hll hlen ht hz
  clear hq e1
  generalize l.length = L at *
  have hLz : ¬ L = 0 := by omega
  have hLd : decide (((L : Nat) : Int) = 0) = false := by simp; omega
  go_enter Try.func13, Try.ntmps13
  go_wp2_with (first | rw [HXe.out] | (go_at_call 12; refine HL.out.mono ?_; rintro e w1 ⟨rfl, hw1⟩; have hw2 := hw1.symm; subst hw2) | (go_at_call 22; refine HT.out.mono ?_; rintro e w1 ⟨rfl, hw1⟩; have hw2 := hw1.symm; subst hw2))
  refine wp_only ?_
  refine wp_region_held_drew (S := fun wx => wx.cell? ⟨b, 1, none⟩ = some (.slice (some ⟨g, 0, none⟩) L cap) ∧ wx.cell? ⟨g, 0, none⟩ = some (.int .i64 t.k) ∧ wx.cell? ⟨g, 1, none⟩ = some (.int .i64 t.n)) (by kernel_rfl) ⟨c1, s0, s1⟩ (fun hHeld => ?_)
  refine wpAnyH_take (i := 0) (v := ?_) rfl (by kernel_rfl) (by kernel_rfl) (by kernel_rfl) (fun _ _ _ h => h.elim) (Or.inl ⟨by rfl, ?_⟩) (by assumption) ?_
  rotate_left
  · intro wx hSw
    try dsimp only at hSw
    go_simp
    try with_reducible rfl
  try simp only [Act.put, List.getElem_toArray, List.getElem_cons_zero, List.getElem_cons_succ, List.setIfInBounds_toArray, List.set_cons_zero, List.set_cons_succ]
  refine wpAnyH_take (i := 1) (v := ?_) rfl (by kernel_rfl) (by kernel_rfl) (by kernel_rfl) (fun _ _ _ h => h.elim) (Or.inl ⟨by rfl, ?_⟩) (by assumption) ?_
  rotate_left
  · intro wx hSw
    try dsimp only at hSw
    go_simp
    try with_reducible rfl
  try simp only [Act.put, List.getElem_toArray, List.getElem_cons_zero, List.getElem_cons_succ, List.setIfInBounds_toArray, List.set_cons_zero, List.set_cons_succ]
  refine wpAnyH_take (i := 2) (v := ?_) rfl (by kernel_rfl) (by kernel_rfl) (by kernel_rfl) (fun _ _ _ h => h.elim) (Or.inl ⟨by rfl, ?_⟩) (by assumption) ?_
  rotate_left
  · intro wx hSw
    try dsimp only at hSw
    go_simp
    try with_reducible rfl
  try simp only [Act.put, List.getElem_toArray, List.getElem_cons_zero, List.getElem_cons_succ, List.setIfInBounds_toArray, List.set_cons_zero, List.set_cons_succ]
  refine wpAnyH_take (i := 3) (v := ?_) rfl (by kernel_rfl) (by kernel_rfl) (by kernel_rfl) (fun _ _ _ h => h.elim) (Or.inl ⟨by rfl, ?_⟩) (by assumption) ?_
  rotate_left
  · intro wx hSw
    try dsimp only at hSw
    go_simp
    try with_reducible rfl
  try simp only [Act.put, List.getElem_toArray, List.getElem_cons_zero, List.getElem_cons_succ, List.setIfInBounds_toArray, List.set_cons_zero, List.set_cons_succ]
  refine wpAnyH_take (i := 4) (v := ?_) rfl (by kernel_rfl) (by kernel_rfl) (by kernel_rfl) (fun _ _ _ h => h.elim) (Or.inl ⟨by rfl, ?_⟩) (by assumption) ?_
  rotate_left
  · intro wx hSw
    try dsimp only at hSw
    go_simp
    try with_reducible rfl
  try simp only [Act.put, List.getElem_toArray, List.getElem_cons_zero, List.getElem_cons_succ, List.setIfInBounds_toArray, List.set_cons_zero, List.set_cons_succ]
  refine wpAnyH_take (i := 5) (v := ?_) rfl (by kernel_rfl) (by kernel_rfl) (by kernel_rfl) (fun _ _ _ h => h.elim) (Or.inl ⟨by rfl, ?_⟩) (by assumption) ?_
  rotate_left
  · intro wx hSw
    try dsimp only at hSw
    go_simp
    try with_reducible rfl
  try simp only [Act.put, List.getElem_toArray, List.getElem_cons_zero, List.getElem_cons_succ, List.setIfInBounds_toArray, List.set_cons_zero, List.set_cons_succ]
  refine wpAnyH_take (i := 6) (v := ?_) rfl (by kernel_rfl) (by kernel_rfl) (by kernel_rfl) (fun _ _ _ h => h.elim) (Or.inl ⟨by rfl, ?_⟩) (by assumption) ?_
  rotate_left
  · intro wx hSw
    try dsimp only at hSw
    go_simp
    try with_reducible rfl
  try simp only [Act.put, List.getElem_toArray, List.getElem_cons_zero, List.getElem_cons_succ, List.setIfInBounds_toArray, List.set_cons_zero, List.set_cons_succ]
  refine wpAnyH_take (i := 7) (v := ?_) rfl (by kernel_rfl) (by kernel_rfl) (by kernel_rfl) (fun _ _ _ h => h.elim) (Or.inl ⟨by rfl, ?_⟩) (by assumption) ?_
  rotate_left
  · intro wx hSw
    try dsimp only at hSw
    go_simp
    try with_reducible rfl
  try simp only [Act.put, List.getElem_toArray, List.getElem_cons_zero, List.getElem_cons_succ, List.setIfInBounds_toArray, List.set_cons_zero, List.set_cons_succ]
  refine wpAnyH_take (i := 8) (v := ?_) rfl (by kernel_rfl) (by kernel_rfl) (by kernel_rfl) (fun _ _ _ h => h.elim) (Or.inl ⟨by rfl, ?_⟩) (by assumption) ?_
  rotate_left
  · intro wx hSw
    try dsimp only at hSw
    go_simp
    try with_reducible rfl
  try simp only [Act.put, List.getElem_toArray, List.getElem_cons_zero, List.getElem_cons_succ, List.setIfInBounds_toArray, List.set_cons_zero, List.set_cons_succ]
  refine wpAnyH_take (i := 9) (v := ?_) rfl (by kernel_rfl) (by kernel_rfl) (by kernel_rfl) (fun _ _ _ h => h.elim) (Or.inl ⟨by rfl, ?_⟩) (by assumption) ?_
  rotate_left
  · intro wx hSw
    try dsimp only at hSw
    go_simp
    try with_reducible rfl
  try simp only [Act.put, List.getElem_toArray, List.getElem_cons_zero, List.getElem_cons_succ, List.setIfInBounds_toArray, List.set_cons_zero, List.set_cons_succ]
  refine wpAnyH_take (i := 10) (v := ?_) rfl (by kernel_rfl) (by kernel_rfl) (by kernel_rfl) (fun _ _ _ h => h.elim) (Or.inl ⟨by rfl, ?_⟩) (by assumption) ?_
  rotate_left
  · intro wx hSw
    try dsimp only at hSw
    go_simp
    try with_reducible rfl
  try simp only [Act.put, List.getElem_toArray, List.getElem_cons_zero, List.getElem_cons_succ, List.setIfInBounds_toArray, List.set_cons_zero, List.set_cons_succ]
  refine wpAnyH_take (i := 11) (v := ?_) rfl (by kernel_rfl) (by kernel_rfl) (by kernel_rfl) (fun _ _ _ h => h.elim) (Or.inl ⟨by rfl, ?_⟩) (by assumption) ?_
  rotate_left
  · intro wx hSw
    try dsimp only at hSw
    go_simp
    try with_reducible rfl
  try simp only [Act.put, List.getElem_toArray, List.getElem_cons_zero, List.getElem_cons_succ, List.setIfInBounds_toArray, List.set_cons_zero, List.set_cons_succ]
  refine wpAnyH_take (i := 12) (v := ?_) rfl (by kernel_rfl) (by kernel_rfl) (by kernel_rfl) (fun _ _ _ h => h.elim) (Or.inl ⟨by rfl, ?_⟩) (by assumption) ?_
  rotate_left
  · intro wx hSw
    try dsimp only at hSw
    go_simp
    try with_reducible rfl
  try simp only [Act.put, List.getElem_toArray, List.getElem_cons_zero, List.getElem_cons_succ, List.setIfInBounds_toArray, List.set_cons_zero, List.set_cons_succ]
  refine wpAnyH_ready (rs := [13]) (by kernel_rfl) (by simp) ?_
  refine AllReadyH.cons rfl (fun K hK => ?_) ?_
  · go_simp
    refine hK.out _ _ ?_ (fun hHeld => ?_)
    · first | exact HKp (Below.refl _ _) | exact HKp (box1 _ _).drew | exact HKp B1.drew
    clear hK K
    try simp only [Act.put, List.getElem_toArray, List.getElem_cons_zero, List.getElem_cons_succ, List.setIfInBounds_toArray, List.set_cons_zero, List.set_cons_succ]
    refine wpAnyH_ready (rs := [14]) (by kernel_rfl) (by simp) ?_
    refine AllReadyH.cons rfl (fun K hK => ?_) ?_
    · go_simp
      try rw [HYe.out]
      refine hK.out _ _ ?_ (fun hHeld => ?_)
      · first | exact HKp (Below.refl _ _) | exact HKp (box1 _ _).drew | exact HKp B1.drew
      clear hK K
      try simp only [Act.put, List.getElem_toArray, List.getElem_cons_zero, List.getElem_cons_succ, List.setIfInBounds_toArray, List.set_cons_zero, List.set_cons_succ]
      refine wpAnyH_take (i := 15) (v := ?_) rfl (by kernel_rfl) (by kernel_rfl) (by kernel_rfl) (fun _ _ _ h => h.elim) (Or.inl ⟨by rfl, ?_⟩) (by assumption) ?_
      rotate_left
      · intro wx hSw
        try dsimp only at hSw
        go_simp
        try with_reducible rfl
      try simp only [Act.put, List.getElem_toArray, List.getElem_cons_zero, List.getElem_cons_succ, List.setIfInBounds_toArray, List.set_cons_zero, List.set_cons_succ]
      refine wpAnyH_done (by kernel_rfl) ?_ _
      dsimp only [Only, Exit.then]
      try rw [HYe.out]
      go_wp2_with fail
      refine wp_only ?_
      refine wp_region_held_drew (S := fun wx => wx.cell? ⟨b, 1, none⟩ = some (.slice (some ⟨g, 0, none⟩) L cap)) (by kernel_rfl) d1 (fun hHeld => ?_)
      refine wpAnyH_take (i := 0) (v := ?_) rfl (by kernel_rfl) (by kernel_rfl) (by kernel_rfl) (fun _ _ _ h => h.elim) (Or.inl ⟨by rfl, ?_⟩) (by assumption) ?_
      rotate_left
      · intro wx hSw
        try dsimp only at hSw
        go_simp
        try with_reducible rfl
      try simp only [Act.put, List.getElem_toArray, List.getElem_cons_zero, List.getElem_cons_succ, List.setIfInBounds_toArray, List.set_cons_zero, List.set_cons_succ]
      refine wpAnyH_take (i := 1) (v := ?_) rfl (by kernel_rfl) (by kernel_rfl) (by kernel_rfl) (fun _ _ _ h => h.elim) (Or.inl ⟨by rfl, ?_⟩) (by assumption) ?_
      rotate_left
      · intro wx hSw
        try dsimp only at hSw
        go_simp
        try with_reducible rfl
      try simp only [Act.put, List.getElem_toArray, List.getElem_cons_zero, List.getElem_cons_succ, List.setIfInBounds_toArray, List.set_cons_zero, List.set_cons_succ]
      refine wpAnyH_take (i := 2) (v := ?_) rfl (by kernel_rfl) (by kernel_rfl) (by kernel_rfl) (fun _ _ _ h => h.elim) (Or.inl ⟨by rfl, ?_⟩) (by assumption) ?_
      rotate_left
      · intro wx hSw
        try dsimp only at hSw
        go_simp
        try with_reducible rfl
      try simp only [Act.put, List.getElem_toArray, List.getElem_cons_zero, List.getElem_cons_succ, List.setIfInBounds_toArray, List.set_cons_zero, List.set_cons_succ]
      refine wpAnyH_take (i := 3) (v := ?_) rfl (by kernel_rfl) (by kernel_rfl) (by kernel_rfl) (fun _ _ _ h => h.elim) (Or.inl ⟨by rfl, ?_⟩) (by assumption) ?_
      rotate_left
      · intro wx hSw
        try dsimp only at hSw
        go_simp
        try with_reducible rfl
      try simp only [Act.put, List.getElem_toArray, List.getElem_cons_zero, List.getElem_cons_succ, List.setIfInBounds_toArray, List.set_cons_zero, List.set_cons_succ]
      refine wpAnyH_take (i := 4) (v := ?_) rfl (by kernel_rfl) (by kernel_rfl) (by kernel_rfl) (fun _ _ _ h => h.elim) (Or.inl ⟨by rfl, ?_⟩) (by assumption) ?_
      rotate_left
      · intro wx hSw
        try dsimp only at hSw
        go_simp
        try with_reducible rfl
      try simp only [Act.put, List.getElem_toArray, List.getElem_cons_zero, List.getElem_cons_succ, List.setIfInBounds_toArray, List.set_cons_zero, List.set_cons_succ]
      refine wpAnyH_take (i := 5) (v := ?_) rfl (by kernel_rfl) (by kernel_rfl) (by kernel_rfl) (fun _ _ _ h => h.elim) (Or.inl ⟨by rfl, ?_⟩) (by assumption) ?_
      rotate_left
      · intro wx hSw
        try dsimp only at hSw
        go_simp
        try with_reducible rfl
      try simp only [Act.put, List.getElem_toArray, List.getElem_cons_zero, List.getElem_cons_succ, List.setIfInBounds_toArray, List.set_cons_zero, List.set_cons_succ]
      refine wpAnyH_take (i := 6) (v := ?_) rfl (by kernel_rfl) (by kernel_rfl) (by kernel_rfl) (fun _ _ _ h => h.elim) (Or.inl ⟨by rfl, ?_⟩) (by assumption) ?_
      rotate_left
      · intro wx hSw
        try dsimp only at hSw
        go_simp
        try with_reducible rfl
      try simp only [Act.put, List.getElem_toArray, List.getElem_cons_zero, List.getElem_cons_succ, List.setIfInBounds_toArray, List.set_cons_zero, List.set_cons_succ]
      refine wpAnyH_take (i := 7) (v := ?_) rfl (by kernel_rfl) (by kernel_rfl) (by kernel_rfl) (fun _ _ _ h => h.elim) (Or.inl ⟨by rfl, ?_⟩) (by assumption) ?_
      rotate_left
      · intro wx hSw
        try dsimp only at hSw
        go_simp
        try with_reducible rfl
      try simp only [Act.put, List.getElem_toArray, List.getElem_cons_zero, List.getElem_cons_succ, List.setIfInBounds_toArray, List.set_cons_zero, List.set_cons_succ]
      refine wpAnyH_take (i := 8) (v := ?_) rfl (by kernel_rfl) (by kernel_rfl) (by kernel_rfl) (fun _ _ _ h => h.elim) (Or.inl ⟨by rfl, ?_⟩) (by assumption) ?_
      rotate_left
      · intro wx hSw
        try dsimp only at hSw
        go_simp
        try with_reducible rfl
      try simp only [Act.put, List.getElem_toArray, List.getElem_cons_zero, List.getElem_cons_succ, List.setIfInBounds_toArray, List.set_cons_zero, List.set_cons_succ]
      refine wpAnyH_take (i := 9) (v := ?_) rfl (by kernel_rfl) (by kernel_rfl) (by kernel_rfl) (fun _ _ _ h => h.elim) (Or.inl ⟨by rfl, ?_⟩) (by assumption) ?_
      rotate_left
      · intro wx hSw
        try dsimp only at hSw
        go_simp
        try with_reducible rfl
      try simp only [Act.put, List.getElem_toArray, List.getElem_cons_zero, List.getElem_cons_succ, List.setIfInBounds_toArray, List.set_cons_zero, List.set_cons_succ]
      refine wpAnyH_ready (rs := [10]) (by kernel_rfl) (by simp) ?_
      refine AllReadyH.cons rfl (fun K hK => ?_) ?_
      · go_simp
        refine hK.out _ _ ?_ (fun hHeld => ?_)
        · first | exact d1 | exact d2
        clear hK K
        try simp only [Act.put, List.getElem_toArray, List.getElem_cons_zero, List.getElem_cons_succ, List.setIfInBounds_toArray, List.set_cons_zero, List.set_cons_succ]
        refine wpAnyH_take (i := 11) (v := ?_) rfl (by kernel_rfl) (by kernel_rfl) (by kernel_rfl) (fun _ _ _ h => h.elim) (Or.inl ⟨by rfl, ?_⟩) (by assumption) ?_
        rotate_left
        · intro wx hSw
          try dsimp only at hSw
          go_simp
          try with_reducible rfl
        try simp only [Act.put, List.getElem_toArray, List.getElem_cons_zero, List.getElem_cons_succ, List.setIfInBounds_toArray, List.set_cons_zero, List.set_cons_succ]
        refine wpAnyH_ready (rs := [12]) (by kernel_rfl) (by simp) ?_
        refine AllReadyH.cons rfl (fun K hK => ?_) ?_
        · go_simp
          try rw [HZe.out]
          refine hK.out _ _ ?_ (fun hHeld => ?_)
          · first | exact d1 | exact d2
          clear hK K
          try simp only [Act.put, List.getElem_toArray, List.getElem_cons_zero, List.getElem_cons_succ, List.setIfInBounds_toArray, List.set_cons_zero, List.set_cons_succ]
          refine wpAnyH_done (by kernel_rfl) ?_ _
          dsimp only [Only, Exit.then]
          go_wp2_with (first | rw [HUe.out] | rw [HVe.out])
          refine HSk.out.mono ?_
          rintro e w4 ⟨rfl, l4, hH4, hk4⟩
          obtain ⟨n0, n1⟩ := HKB.out w4 l4 hk4
          obtain ⟨m0, m1⟩ := n0.c
          obtain ⟨m2, m3⟩ := n1.c
          have m4 := n0.f 0
          have m5 := n0.f 1
          have hfin := HFin.out w4 l4 hH4 hk4 ((w4.setCell ⟨w.heap.size, 0, none⟩ (.int .i64 t.k)).setCell ⟨w.heap.size, 1, none⟩ (.int .i64 t.n)) ((Turns.set (S := fun k => k = w.heap.size) w4 (p := ⟨w.heap.size, 0, none⟩) rfl _).trans ((Turns.set (S := fun k => k = w.heap.size) _ (p := ⟨w.heap.size, 1, none⟩) rfl _).mono (fun _ _ e => .inl e)))
          have HFi := hide hfin
          have hne2 : ¬ X.heap.size = w.heap.size := by omega
          clear hfin hk4 hH4 n0 n1
          go_wp2_with fail
          refine bodyPost_ret (v := .tuple #[itv t.k t.n, .bool true]) (by simp [results, Try.results13, go_sem, m0, m1]) rfl ?_
          exact ⟨t, rfl, HFi.out⟩
        exact AllReadyH.nil
      exact AllReadyH.nil
    exact AllReadyH.nil
  exact AllReadyH.nil
end Go.Proofs.Ytdhiomahcilffaa
