/-
  The way that awake asks for: from a corner of a map of three columns and rows to the middle of its far side. awake. RouteTriangle walked.
-/
import Derived.Test.YtggaobcdogbjhaaDoorFdAll
import Derived.Test.YtggaobcdogbjhaaDoorAwake
import Derived.Test.YtggaobcdogbjhaaDoorBoth
namespace Go.Proofs.YtggaobcdogbjhaaDoor
open Go.RowKit Go.Shelf
set_option linter.unusedVariables false
set_option linter.unusedSimpArgs false
theorem Wk.ten {W H : Int} {tl : List Nat} {f : Int → Int → Option Int} {c s ix iy iw ih : Int} {a b : Int × Int} {n : Nat} (h : Wk (stepR W H tl f c s ix iy iw ih) a b n) : n = 0 ∨ 10 ≤ n := by
  induction h using Wk.ind with
  | nil => exact .inl rfl
  | snoc _ hs ih =>
    obtain ⟨t, -, -, -, h4⟩ := hs
    have := co_pos t
    omega
abbrev st9 := stepR 3 3 tl9 (whoL []) 0 1 0 0 3 3
theorem st9_a : st9 (2, 1) (1, 0) 14 := ⟨6, by decide, by decide, by decide, by decide⟩
theorem st9_b : st9 (1, 0) (0, 0) 10 := ⟨2, by decide, by decide, by decide, by decide⟩
theorem wk9_a : Wk st9 (2, 1) (1, 0) 14 := Wk.one st9_a
theorem wk9 : Wk st9 (2, 1) (0, 0) 24 := wk9_a.snoc st9_b
theorem adm9 {fx fy : Int} (hf : inB 0 0 3 3 (fx, fy)) (a : Int × Int) (n : Nat) (h : Wk st9 a (fx, fy) n) : (ocN a.1 a.2 fx fy).toNat ≤ n := by
  have := Wk.left (left := fun q : Int × Int => (ocN q.1 q.2 fx fy).toNat) (ocN_con (by omega) hf) h
  simp only [ocN_goal] at this
  omega
theorem least9_a : Least st9 (2, 1) (1, 0) 14 := ⟨wk9_a, fun m h => by have := adm9 (fx := 1) (fy := 0) (by decide) _ _ h; exact Nat.le_trans (by decide) this⟩
theorem least9 : Least st9 (2, 1) (0, 0) 24 := ⟨wk9, fun m h => by have := adm9 (fx := 0) (fy := 0) (by decide) _ _ h; exact Nat.le_trans (by decide) this⟩
theorem tab_get {ix iy iw ih : Int} {C : List Int} {q : Int × Int} {n : Nat} (hb : ∀ m ∈ C, -1 ≤ m) (h : tab ix iy iw ih C q = some n) : C[ij ix iy iw q.1 q.2]? = some (n : Int) := by
  unfold tab at h
  split at h
  · split at h
    · rename_i m hm
      split at h
      · cases h
      · injection h with h
        have := hb m (List.mem_of_getElem? hm)
        rw [hm, ← h]
        congr 1
        omega
    · cases h
  · cases h
theorem round9 : roundN 0 0 0 0 3 3 8 = [0, 1, 4] := by decide
theorem round9_b : roundN 1 0 0 0 3 3 8 = [0, 1, 2, 4, 5] := by decide
/-- The way has two cells, the first of them is the one to the East. -/
theorem way9 {C : List Int} {P : List (Int × Int)} (hC : C.length = 9) (hb : ∀ m ∈ C, -1 ≤ m ∧ m ≤ 229376) {Hq : List ((Int × Int) × Nat)} (hsk : Sk st9 (2, 1) (tab 0 0 3 3 C) Hq) (hH : ∀ q g, (q, g) ∈ Hq → 24 < g + (ocN q.1 q.2 0 0).toNat)
    (hw : Wy 3 3 tl9 (whoL []) 0 1 0 0 3 3 C 0 0 24 P) : ∃ q, P = [(1, 0), q] := by
  have hb1 : ∀ m ∈ C, -1 ≤ m := fun m h => (hb m h).1
  have t1 : tab 0 0 3 3 C (1, 0) = some 14 := hsk.ends (left := fun q : Int × Int => (ocN q.1 q.2 0 0).toNat) (adm9 (fx := 0) (fy := 0) (by decide)) hH least9_a (Wk.one st9_b) (by omega)
  have c1 := tab_get hb1 t1
  have c2 := tab_get hb1 hsk.src
  have f1 : fitF (fun d => stp 3 3 tl9 (whoL []) 0 1 0 0 (d : Int)) 0 0 3 C 0 0 24 0 = true := by
    unfold fitF
    rw [Bool.and_eq_true]
    exact ⟨by rw [decide_eq_true_eq]; exact c1, by decide⟩
  have f2 : fitF (fun d => stp 3 3 tl9 (whoL []) 0 1 1 0 (d : Int)) 0 0 3 C 1 0 14 4 = true := by
    unfold fitF
    rw [Bool.and_eq_true]
    exact ⟨by rw [decide_eq_true_eq]; exact c2, by decide⟩
  rcases Wy.inv hw with ⟨h, rfl⟩ | ⟨h, h1, rfl⟩ | ⟨pre, t, l, h, h1, h2, h3, h4, rfl⟩
  · omega
  ·
    have := h1 0 (by rw [round9]; simp)
    rw [f1] at this
    cases this
  ·
    have ht : t = 0 := by
      rw [round9] at h1
      cases pre with
      | nil => obtain ⟨r, hr⟩ := h1; simp at hr; exact hr.1
      | cons u pre =>
        obtain ⟨r, hr⟩ := h1
        simp at hr
        have := h2 u (by simp)
        rw [hr.1, f1] at this
        cases this
    subst ht
    have h5 : Wy 3 3 tl9 (whoL []) 0 1 0 0 3 3 C 1 0 14 l := h4
    rcases Wy.inv h5 with ⟨h, rfl⟩ | ⟨h, h1, rfl⟩ | ⟨pre2, t2, l2, g, g1, g2, g3, g4, rfl⟩
    · omega
    ·
      have := h1 4 (by rw [round9_b]; simp)
      rw [f2] at this
      cases this
    ·
      have hco := co_pos t2
      have hm : t2 ∈ roundN 1 0 0 0 3 3 8 := by obtain ⟨r, hr⟩ := g1; rw [← hr]; simp
      have hin := inn_in (mem_inn hm)
      unfold fitF at g3
      rw [Bool.and_eq_true, decide_eq_true_eq] at g3
      have htb := tab_of (q := (1 + dX t2.val, 0 + dY t2.val)) hin g3.1
      have hc : 14 - co ((t2.val : Nat) : Int) ≠ -1 := by omega
      rw [if_neg hc] at htb
      have hw2 := (hsk.real _ _ htb).ten
      have hz : 14 - co ((t2.val : Nat) : Int) = 0 := by omega
      rw [hz] at g4
      rcases Wy.inv g4 with ⟨-, rfl⟩ | ⟨h, -⟩ | ⟨_, _, _, h, -⟩
      · exact ⟨_, rfl⟩
      · omega
      · omega
end Go.Proofs.YtggaobcdogbjhaaDoor
namespace Go.Proofs.YtggaobcdogbjhaaDoor
open Go.RowKit Go.Shelf
set_option linter.unusedVariables false
set_option linter.unusedSimpArgs false
attribute [local go_sem] Oper.semAt_some
theorem find9 (p : Nat) (w : World) (hw : Wl w p 3 3 tl9 (whoL [])) (hg : Grnd w) (ho : Offs w) :
    Calls Tryd.prog 6 #[ptr p, shv 0 1, cel 0 0, cel 2 1, rct 0 0 3 3, .int .i64 9] w fun e w' => ∃ g cap, e = .returned (.tuple #[.agg #[.int .i64 1, .slice (some ⟨g, 0, none⟩) 2 cap], .int .i64 24]) ∧ (w'.cell? ⟨g, 0, none⟩ = some (.int .i64 1) ∧ w'.cell? ⟨g, 1, none⟩ = some (.int .i64 0)) ∧ 2 ≤ cap ∧ Below w.heap.size w w' := by
  refine (find_is p 3 3 tl9 (whoL []) 0 1 0 0 2 1 0 0 3 3 0 0 3 3 9 w hw hg ho (by omega) (by omega) (by unfold mtV; rw [if_pos (by decide)]; rfl) (by omega)).mono ?_
  rintro e w' ⟨o, v, cost, rfl, hB, h⟩
  have hs : ((has 0 0 3 3 0 0 && stB 3 3 tl9 (whoL []) 0 1 0 0) && (has 0 0 3 3 2 1 && stB 3 3 tl9 (whoL []) 0 1 2 1)) = true := by decide
  rcases h with ⟨q, -⟩ | ⟨-, ⟨-, -, -, q⟩ | ⟨-, -, -, q⟩ | ⟨rfl, ⟨q1, q2⟩, q3, C, P, ⟨q4, q5⟩, ⟨Hq, q6, q7⟩, q8, q9, q10⟩⟩
  · rw [hs] at q; cases q
  · omega
  · exact absurd wk9 (q 24)
  · have hc : cost = 24 := by have := q3.eq least9; omega
    subst hc
    obtain ⟨x, rfl⟩ := way9 (by rw [q4]; rfl) q5 q6 q7 q8
    obtain ⟨-, ⟨-, e⟩ | ⟨g, cap, cur, rfl, -, hg, hcap, -, hsz, hcur⟩⟩ := q9
    · cases e
    refine ⟨g, cap, rfl, ⟨?_, ?_⟩, hcap, hB⟩
    · rw [cell_of_row _ g 0 _ _ _ hg]
      have := congrArg (·[0]?) hcur
      simpa [ceCs, List.getElem?_take] using this
    · rw [cell_of_row _ g 1 _ _ _ hg]
      have := congrArg (·[1]?) hcur
      simpa [ceCs, List.getElem?_take] using this
set_option maxRecDepth 100000 in
set_option maxHeartbeats 2000000 in
theorem awake_is (w : World) (hg : Grnd w) (ho : Offs w) : Calls Tryd.prog 5 #[] w fun e w' => e = .returned (.bool true) ∧ Below w.heap.size w w' := by
  have hmk := make9
  have HN := hide (new9 w)
  go_enter Tryd.func5, Tryd.ntmps5
  go_wp2_with fail
  refine HN.out.mono ?_
  rintro e w1 ⟨p, rfl, hW, hb1⟩
  have HF := hide (find9 p w1 hW (hg.kept hb1) (ho.kept hb1))
  have HB1 := hide hb1
  clear hmk HN hW hb1
  go_wp2_with fail
  refine HF.out.mono ?_
  rintro e w2 ⟨g, cap, rfl, ⟨c0, c1⟩, hcap, hb2⟩
  have HB := hide (bt HB1.out hb2)
  obtain ⟨Y, hY⟩ : ∃ Y, w2.alloc (.cells #[.int .i64 1, .slice (some ⟨g, 0, none⟩) 2 cap] 41) = Y := ⟨_, rfl⟩
  have BY : Below w2.heap.size w2 Y := hY ▸ box1 _ _
  obtain ⟨⟨y0, y1⟩, -, -⟩ := res_cells (hY ▸ heap_alloc_new w2 (.cells #[.int .i64 1, .slice (some ⟨g, 0, none⟩) 2 cap] 41) : Y.heap[w2.heap.size]? = some (.cells #[.int .i64 1, .slice (some ⟨g, 0, none⟩) 2 cap] 41))
  have d0 := cell_later BY c0
  have d1 := cell_later BY c1
  have HY := hide hY
  have HBY := hide BY
  clear c0 c1 hb2 HF hY BY
  go_wp2_with (first | rw [HY.out] | fail)
  go_ret
  exact ⟨rfl, bt HB.out HBY.out⟩
end Go.Proofs.YtggaobcdogbjhaaDoor
namespace Go.Proofs.YtggaobcdogbjhaaDoor
open Go.RowKit Go.Shelf
set_option linter.unusedVariables false
set_option linter.unusedSimpArgs false
attribute [local go_sem] Oper.semAt_some
/-- What Find tells, in numbers. -/
def FindSays (W H : Int) (tl : List Nat) (f : Int → Int → Option Int) (c s fx fy tx ty ix iy iw ih bud o cost : Int) : Prop :=
  (0 ≤ cost ∧ cost ≤ 229376) ∧
  (((has ix iy iw ih fx fy && stB W H tl f c s fx fy) && (has ix iy iw ih tx ty && stB W H tl f c s tx ty)) = false ∧ o = 2 ∨
   ((has ix iy iw ih fx fy && stB W H tl f c s fx fy) && (has ix iy iw ih tx ty && stB W H tl f c s tx ty)) = true ∧
    ((o = 3 ∧ bud < iw * ih) ∨ (o = 2 ∧ ∀ k, ¬ Wk (stepR W H tl f c s ix iy iw ih) (tx, ty) (fx, fy) k) ∨ (o = 1 ∧ Least (stepR W H tl f c s ix iy iw ih) (tx, ty) (fx, fy) cost.toNat)))
theorem FindEnd.says {W H : Int} {tl : List Nat} {f : Int → Int → Option Int} {c s fx fy tx ty ix iy iw ih bud : Int} {w w' : World} {e : Ending} (h : FindEnd W H tl f c s fx fy tx ty ix iy iw ih bud w e w') :
    ∃ (o : Int) (va : Option Addr) (vn vc : Nat) (cost : Int), e = .returned (.tuple #[.agg #[.int .i64 o, .slice va vn vc], .int .i64 cost]) ∧ Below w.heap.size w w' ∧ FindSays W H tl f c s fx fy tx ty ix iy iw ih bud o cost := by
  obtain ⟨o, v, cost, rfl, hB, ⟨q, rfl, rfl, rfl⟩ | ⟨q, ⟨rfl, rfl, rfl, h1⟩ | ⟨rfl, rfl, rfl, h1⟩ | ⟨rfl, h1, h2, C, P, -, -, -, hcn, -⟩⟩⟩ := h
  · exact ⟨_, _, _, _, _, rfl, hB, by omega, .inl ⟨q, rfl⟩⟩
  · exact ⟨_, _, _, _, _, rfl, hB, by omega, .inr ⟨q, .inl ⟨rfl, h1⟩⟩⟩
  · exact ⟨_, _, _, _, _, rfl, hB, by omega, .inr ⟨q, .inr (.inl ⟨rfl, h1⟩)⟩⟩
  · obtain ⟨va, vn, vc, rfl⟩ := hcn.slice
    exact ⟨_, _, _, _, _, rfl, hB, h1, .inr ⟨q, .inr (.inr ⟨rfl, h2⟩)⟩⟩
/-- No distance is above the sum of two others. -/
theorem triangle {W H : Int} {tl : List Nat} {f : Int → Int → Option Int} {c s fx fy tx ty bx by_ ax ay aw ah ix iy iw ih o1 c1 o2 c2 o3 c3 : Int} (hm : mtV ax ay aw ah 0 0 W H = rct ix iy iw ih) (hW : W ≤ 128) (hH : H ≤ 128)
    (h1 : FindSays W H tl f c s fx fy tx ty ix iy iw ih 1048576 o1 c1) (h2 : FindSays W H tl f c s fx fy bx by_ ix iy iw ih 1048576 o2 c2) (h3 : FindSays W H tl f c s bx by_ tx ty ix iy iw ih 1048576 o3 c3) (e2 : o2 = 1) (e3 : o3 = 1) : o1 = 1 ∧ c1 ≤ c2 + c3 := by
  subst e2; subst e3
  obtain ⟨b1, h1⟩ := h1
  obtain ⟨b2, ⟨-, q⟩ | ⟨s2, ⟨q, -⟩ | ⟨q, -⟩ | ⟨-, l2⟩⟩⟩ := h2
  · omega
  · omega
  · omega
  obtain ⟨b3, ⟨-, q⟩ | ⟨s3, ⟨q, -⟩ | ⟨q, -⟩ | ⟨-, l3⟩⟩⟩ := h3
  · omega
  · omega
  · omega
  have hw := l3.1.trans l2.1
  rw [Bool.and_eq_true] at s2 s3
  have hs : ((has ix iy iw ih fx fy && stB W H tl f c s fx fy) && (has ix iy iw ih tx ty && stB W H tl f c s tx ty)) = true := by rw [s2.1, s3.2]; rfl
  have hf := (Bool.and_eq_true _ _ ▸ s2.1).1
  obtain ⟨r1, r2, r3⟩ := rect_ok hm hW hH hf
  obtain ⟨-, ha⟩ := area_le r1 (by omega) (by omega) hW hH
  rcases h1 with ⟨q, -⟩ | ⟨-, ⟨-, q⟩ | ⟨-, q⟩ | ⟨q, l1⟩⟩
  · rw [hs] at q; cases q
  · omega
  · exact absurd hw (q _)
  · have := l1.2 _ hw
    omega
theorem mt_small {W H : Int} {tl : List Nat} (h : mt W H tl = true) : (0 ≤ W ∧ W ≤ 128) ∧ 0 ≤ H ∧ H ≤ 128 := by
  simp only [mt, gs, Bool.and_eq_true, decide_eq_true_eq] at h
  omega
set_option maxRecDepth 100000 in
set_option maxHeartbeats 4000000 in
theorem tri_is (W H : Int) (tv bv : Value) (tl : List Nat) (L : List Bd) (c s fx fy tx ty ax ay aw ah bu bx by_ : Int) (w : World) (hv : TlR w tv tl) (hb : ∀ x ∈ tl, x < 256) (hl : BdR w bv L) (hg : Grnd w) (ho : Offs w) :
    Calls Tryd.prog 3 #[mp W H tv bv, .agg #[.int .i64 c, .int .i64 s, .int .i64 fx, .int .i64 fy, .int .i64 tx, .int .i64 ty, .int .i64 ax, .int .i64 ay, .int .i64 aw, .int .i64 ah, .int .i64 bu], cel bx by_] w fun e w' => e = .returned (.bool true) ∧ Below w.heap.size w w' := by
  obtain ⟨X, hX⟩ : ∃ X, ((w.alloc (.cells #[.int .i64 W, .int .i64 H, tv, bv] 25)).alloc (.cells #[.int .i64 c, .int .i64 s, .int .i64 fx, .int .i64 fy, .int .i64 tx, .int .i64 ty, .int .i64 ax, .int .i64 ay, .int .i64 aw, .int .i64 ah, .int .i64 bu] 33)).alloc (.cells #[.int .i64 bx, .int .i64 by_] 29) = X := ⟨_, rfl⟩
  have B0 : Below w.heap.size w X := hX ▸ bt (box2 _ _ _) (box1 _ _)
  have M0 : MB X w.heap.size W H tv bv := by rw [← hX]; exact (((MB.new w W H tv bv).kept (box1 _ _)).kept (box1 _ _))
  have A0 : X.heap[w.heap.size + 1]? = some (.cells #[.int .i64 c, .int .i64 s, .int .i64 fx, .int .i64 fy, .int .i64 tx, .int .i64 ty, .int .i64 ax, .int .i64 ay, .int .i64 aw, .int .i64 ah, .int .i64 bu] 33) := by
    rw [← hX]
    refine ((box1 _ _).block _ (by simp)).trans ?_
    have := heap_alloc_new (w.alloc (.cells #[.int .i64 W, .int .i64 H, tv, bv] 25)) (.cells #[.int .i64 c, .int .i64 s, .int .i64 fx, .int .i64 fy, .int .i64 tx, .int .i64 ty, .int .i64 ax, .int .i64 ay, .int .i64 aw, .int .i64 ah, .int .i64 bu] 33)
    simpa using this
  have F0 : Two X (w.heap.size + 2) bx by_ := by rw [← hX]; exact Two.newAt (by simp)
  have zX : X.heap.size = w.heap.size + 3 := by rw [← hX]; simp
  have HC : Hid (∀ wx, Below X.heap.size X wx → (wx.cell? ⟨w.heap.size, 0, none⟩ = some (.int .i64 W) ∧ wx.cell? ⟨w.heap.size, 1, none⟩ = some (.int .i64 H) ∧ wx.cell? ⟨w.heap.size, 2, none⟩ = some tv ∧ wx.cell? ⟨w.heap.size, 3, none⟩ = some bv) ∧
      (wx.cell? ⟨w.heap.size + 1, 0, none⟩ = some (.int .i64 c) ∧ wx.cell? ⟨w.heap.size + 1, 1, none⟩ = some (.int .i64 s)) ∧ (wx.cell? ⟨w.heap.size + 1, 2, none⟩ = some (.int .i64 fx) ∧ wx.cell? ⟨w.heap.size + 1, 3, none⟩ = some (.int .i64 fy)) ∧ (wx.cell? ⟨w.heap.size + 1, 4, none⟩ = some (.int .i64 tx) ∧ wx.cell? ⟨w.heap.size + 1, 5, none⟩ = some (.int .i64 ty)) ∧
      (wx.cell? ⟨w.heap.size + 1, 6, none⟩ = some (.int .i64 ax) ∧ wx.cell? ⟨w.heap.size + 1, 7, none⟩ = some (.int .i64 ay) ∧ wx.cell? ⟨w.heap.size + 1, 8, none⟩ = some (.int .i64 aw) ∧ wx.cell? ⟨w.heap.size + 1, 9, none⟩ = some (.int .i64 ah)) ∧ wx.cell? ⟨w.heap.size + 2, 0, none⟩ = some (.int .i64 bx) ∧ wx.cell? ⟨w.heap.size + 2, 1, none⟩ = some (.int .i64 by_)) := hide fun wx q => by
    have A := (q.block _ (by omega)).trans A0
    have Fk := F0.kept q
    refine ⟨(M0.kept q).c, ⟨?_, ?_⟩, ⟨?_, ?_⟩, ⟨?_, ?_⟩, ⟨?_, ?_, ?_, ?_⟩, Fk.1.1, Fk.1.2⟩ <;> (rw [cell_of_row _ _ _ _ _ _ A]; rfl)
  have HAw : Hid (∀ wx, Below w.heap.size w wx → Calls Tryd.prog 5 #[] wx fun e w' => e = .returned (.bool true) ∧ Below wx.heap.size wx w') := hide fun wx q => awake_is wx (hg.kept q) (ho.kept q)
  have HB0 := hide B0
  have HX := hide hX
  obtain ⟨⟨m0, m1, m2, m3⟩, ⟨a0, a1⟩, ⟨a2, a3⟩, ⟨a4, a5⟩, ⟨a6, a7, a8, a9⟩, b0, b1⟩ := HC.out X (Below.refl _ _)
  have hvf := hv
  have hlf := hl
  obtain ⟨sa1, cap1, rfl, -⟩ := hvf
  obtain ⟨sa2, cap2, rfl, -⟩ := hlf
  rcases chkC_two W H tl L with hc | hc
  · obtain ⟨hmt, -⟩ := chkC_zero hc
    obtain ⟨⟨hW0, hW⟩, hH0, hH⟩ := mt_small hmt
    have hWH : 0 ≤ W * H ∧ W * H ≤ 128 * 128 := ⟨Int.mul_nonneg hW0 hH0, Int.mul_le_mul hW hH hH0 (by omega)⟩
    have hwm : IntKind.i64.wrap (W * H) = W * H := IntWalk.i64_in _ (by omega)
    have HBo := hide (both_ok W H _ _ tl L X (hv.kept B0) hb (hl.kept B0) hc)
    have Hgo := hide (And.intro hg (And.intro ho (And.intro hW hH)))
    have HFi : Hid (∀ (w1 : World) (p ux uy vx vy ix iy iw ih : Int) (pp : Nat), Wl w1 pp W H tl (whoF L) → Below w.heap.size w w1 → mtV ax ay aw ah 0 0 W H = rct ix iy iw ih → Calls Tryd.prog 6 #[ptr pp, shv c s, cel ux uy, cel vx vy, rct ax ay aw ah, .int .i64 1048576] w1 fun e w' => ∃ (o : Int) (va : Option Addr) (vn vc : Nat) (cost : Int), e = .returned (.tuple #[.agg #[.int .i64 o, .slice va vn vc], .int .i64 cost]) ∧ Below w1.heap.size w1 w' ∧ FindSays W H tl (whoF L) c s ux uy vx vy ix iy iw ih 1048576 o cost) := hide fun w1 p ux uy vx vy ix iy iw ih pp q1 q2 q3 => (find_is pp W H tl (whoF L) c s ux uy vx vy ax ay aw ah ix iy iw ih 1048576 w1 q1 (hg.kept q2) (ho.kept q2) hW hH q3 (by omega)).mono (fun e w' h => h.says)
    clear hX B0 M0 A0 F0 zX hv hl hb hg ho hc hmt hW0 hH0 hW hH
    go_enter Tryd.func3, Tryd.ntmps3
    go_wp2_with (first | rw [HX.out] | fail)
    refine HBo.out.mono ?_
    rintro e w1 ⟨p, r, rfl, hWn, -, hb1⟩
    have HW1 := hide hWn.1
    have HB1 := hide hb1
    clear m0 m1 m2 m3 a0 a1 a2 a3 a4 a5 a6 a7 a8 a9 b0 b1 HBo hWn hb1
    have HP0 := HB1
    have HW0 := HW1
    obtain ⟨⟨m0, m1, m2, m3⟩, ⟨a0, a1⟩, ⟨a2, a3⟩, ⟨a4, a5⟩, ⟨a6, a7, a8, a9⟩, b0, b1⟩ := HC.out w1 HP0.out
    by_cases hA : 700 < W * H
    · go_wp2_with fail
      refine (HAw.out _ (bt HB0.out HB1.out)).mono ?_
      rintro e w9 ⟨rfl, hb9⟩
      have HE := hide (bt (bt HB0.out HB1.out) hb9)
      clear hb9
      go_wp2_with fail
      go_ret
      exact ⟨rfl, HE.out⟩
    · obtain ⟨ix, iy, iw, ih, hmt⟩ := mtV_rect ax ay aw ah 0 0 W H
      go_wp2_with fail
      refine (HFi.out _ 0 fx fy tx ty ix iy iw ih p HW0.out (bt HB0.out HP0.out) hmt).mono ?_
      rintro e v1 ⟨o1, va1, vn1, vc1, c1, rfl, hb1, hs1⟩
      obtain ⟨Y1, hY1⟩ : ∃ Y, v1.alloc (.cells #[.int .i64 o1, .slice va1 vn1 vc1] 41) = Y := ⟨_, rfl⟩
      have BY1 : Below v1.heap.size v1 Y1 := hY1 ▸ box1 _ _
      have R1 : Y1.heap[v1.heap.size]? = some (.cells #[.int .i64 o1, .slice va1 vn1 vc1] 41) := hY1 ▸ heap_alloc_new v1 _
      have HY1 := hide hY1
      have HP1 := hide (bt HP0.out (bt hb1 BY1))
      have HW1 := hide (HW0.out.kept (bt hb1 BY1))
      have Hs1 := hide hs1
      have Hk1 := hide (bt hb1 BY1)
      have HR1 := hide R1
      clear m0 m1 m2 m3 a0 a1 a2 a3 a4 a5 a6 a7 a8 a9 b0 b1 hb1 hs1 hY1 BY1 R1
      obtain ⟨⟨m0, m1, m2, m3⟩, ⟨a0, a1⟩, ⟨a2, a3⟩, ⟨a4, a5⟩, ⟨a6, a7, a8, a9⟩, b0, b1⟩ := HC.out Y1 HP1.out
      go_wp2_with (rw [HY1.out])
      refine (HFi.out _ 0 fx fy bx by_ ix iy iw ih p HW1.out (bt HB0.out HP1.out) hmt).mono ?_
      rintro e v2 ⟨o2, va2, vn2, vc2, c2, rfl, hb2, hs2⟩
      obtain ⟨Y2, hY2⟩ : ∃ Y, v2.alloc (.cells #[.int .i64 o2, .slice va2 vn2 vc2] 41) = Y := ⟨_, rfl⟩
      have BY2 : Below v2.heap.size v2 Y2 := hY2 ▸ box1 _ _
      have R2 : Y2.heap[v2.heap.size]? = some (.cells #[.int .i64 o2, .slice va2 vn2 vc2] 41) := hY2 ▸ heap_alloc_new v2 _
      have HY2 := hide hY2
      have HP2 := hide (bt HP1.out (bt hb2 BY2))
      have HW2 := hide (HW1.out.kept (bt hb2 BY2))
      have Hs2 := hide hs2
      have Hk2 := hide (bt hb2 BY2)
      have HR2 := hide R2
      clear m0 m1 m2 m3 a0 a1 a2 a3 a4 a5 a6 a7 a8 a9 b0 b1 hb2 hs2 hY2 BY2 R2
      obtain ⟨⟨m0, m1, m2, m3⟩, ⟨a0, a1⟩, ⟨a2, a3⟩, ⟨a4, a5⟩, ⟨a6, a7, a8, a9⟩, b0, b1⟩ := HC.out Y2 HP2.out
      go_wp2_with (rw [HY2.out])
      refine (HFi.out _ 0 bx by_ tx ty ix iy iw ih p HW2.out (bt HB0.out HP2.out) hmt).mono ?_
      rintro e v3 ⟨o3, va3, vn3, vc3, c3, rfl, hb3, hs3⟩
      obtain ⟨Y3, hY3⟩ : ∃ Y, v3.alloc (.cells #[.int .i64 o3, .slice va3 vn3 vc3] 41) = Y := ⟨_, rfl⟩
      have BY3 : Below v3.heap.size v3 Y3 := hY3 ▸ box1 _ _
      have R3 : Y3.heap[v3.heap.size]? = some (.cells #[.int .i64 o3, .slice va3 vn3 vc3] 41) := hY3 ▸ heap_alloc_new v3 _
      have HY3 := hide hY3
      have HP3 := hide (bt HP2.out (bt hb3 BY3))
      have HW3 := hide (HW2.out.kept (bt hb3 BY3))
      have Hs3 := hide hs3
      have Hk3 := hide (bt hb3 BY3)
      have HR3 := hide R3
      clear m0 m1 m2 m3 a0 a1 a2 a3 a4 a5 a6 a7 a8 a9 b0 b1 hb3 hs3 hY3 BY3 R3
      obtain ⟨⟨m0, m1, m2, m3⟩, ⟨a0, a1⟩, ⟨a2, a3⟩, ⟨a4, a5⟩, ⟨a6, a7, a8, a9⟩, b0, b1⟩ := HC.out Y3 HP3.out
      obtain ⟨⟨r10, -⟩, -⟩ := res_cells ((Hk3.out.block _ (Nat.lt_of_lt_of_le (Array.getElem?_eq_some_iff.1 HR1.out).1 Hk2.out.size)).trans ((Hk2.out.block _ (Array.getElem?_eq_some_iff.1 HR1.out).1).trans HR1.out))
      obtain ⟨⟨r20, -⟩, -⟩ := res_cells ((Hk3.out.block _ (Array.getElem?_eq_some_iff.1 HR2.out).1).trans HR2.out)
      obtain ⟨⟨r30, -⟩, -⟩ := res_cells HR3.out
      have HBf := hide (bt HB0.out HP3.out)
      have Hbd := hide (And.intro Hs1.out.1 (And.intro Hs2.out.1 Hs3.out.1))
      clear m0 m1 m2 m3 a0 a1 a2 a3 a4 a5 a6 a7 a8 a9 b0 b1 HC HFi HW0 HW1 HW2 HW3 HP0 HP1 HP2 HB1 Hk1 Hk2 Hk3 HR1 HR2 HR3
      by_cases e2 : o2 = 1
      · by_cases e3 : o3 = 1
        · obtain ⟨t1, t2⟩ := triangle hmt Hgo.out.2.2.1 Hgo.out.2.2.2 Hs1.out Hs2.out Hs3.out e2 e3
          have hbd := Hbd.out
          have hwr : IntKind.i64.wrap (c2 + c3) = c2 + c3 := IntWalk.i64_in _ (by omega)
          subst e2; subst e3; subst t1
          have Hx := hide (And.intro hbd hmt)
          clear hbd Hs1 Hs2 Hs3 Hbd hmt Hgo
          go_wp2_with (rw [HY3.out])
          refine (HAw.out _ (HBf.out)).mono ?_
          rintro e w9 ⟨rfl, hb9⟩
          have HE := hide (bt (HBf.out) hb9)
          clear hb9
          go_wp2_with fail
          go_ret
          exact ⟨rfl, HE.out⟩
        · subst e2
          clear Hs1 Hs2 Hs3 Hbd hmt Hgo
          go_wp2_with (rw [HY3.out])
          refine (HAw.out _ (HBf.out)).mono ?_
          rintro e w9 ⟨rfl, hb9⟩
          have HE := hide (bt (HBf.out) hb9)
          clear hb9
          go_wp2_with fail
          go_ret
          exact ⟨rfl, HE.out⟩
      · clear Hs1 Hs2 Hs3 Hbd hmt Hgo
        go_wp2_with (rw [HY3.out])
        refine (HAw.out _ (HBf.out)).mono ?_
        rintro e w9 ⟨rfl, hb9⟩
        have HE := hide (bt (HBf.out) hb9)
        clear hb9
        go_wp2_with fail
        go_ret
        exact ⟨rfl, HE.out⟩
  · have HBo := hide (both_no W H _ _ tl L X (hv.kept B0) hb (hl.kept B0) hc)
    clear hX B0 M0 A0 F0 zX hv hl hb hg ho hc
    go_enter Tryd.func3, Tryd.ntmps3
    go_wp2_with (first | rw [HX.out] | fail)
    refine HBo.out.mono ?_
    rintro e w1 ⟨rfl, hb1⟩
    have HB1 := hide hb1
    clear m0 m1 m2 m3 a0 a1 a2 a3 a4 a5 a6 a7 a8 a9 b0 b1 HBo hb1
    go_wp2_with fail
    refine (HAw.out _ (bt HB0.out HB1.out)).mono ?_
    rintro e w9 ⟨rfl, hb9⟩
    have HE := hide (bt (bt HB0.out HB1.out) hb9)
    clear hb9
    go_wp2_with fail
    go_ret
    exact ⟨rfl, HE.out⟩
end Go.Proofs.YtggaobcdogbjhaaDoor
