/-
  What New gives; a map of three columns and rows. The way that awake asks for: from a corner of a map of three columns and rows to the middle of its far side. awake.
-/
import Derived.Test.YtggaobcdogbjhaaGreatDoorStands
import Derived.Test.YtggaobcdogbjhaaGreatDoorNew
import Derived.Test.YtggaobcdogbjhaaGreatDoorFdAll
namespace Go.Proofs.YtggaobcdogbjhaaGreatDoor
open Go.RowKit
set_option linter.unusedVariables false
/-- What New gives is a World as this layer asks it. -/
theorem Made.wl {w w' : World} {W H : Int} {tl : List Nat} {L : List Bd} {p : Nat} (h : Made w W H tl L p w') (hm : mt W H tl = true) (hb : ∀ x ∈ tl, x < 256) : Wl w' p W H tl (whoL L) ∧ Below w.heap.size w w' := by
  obtain ⟨bm, tv, bv, d1, d2, d3, d4, d5, -⟩ := h
  exact ⟨⟨⟨hm, hb⟩, bm, _, tv, bv, _, d1, d2, d4⟩, d5⟩
/-- So many edits have been made of the World in block p. -/
def Ep (w : World) (p n : Nat) : Prop := ∃ W H tv bv bm a cap, Wd w p W H tv bv bm (.slice a n cap)
theorem Ep.kept {w w' : World} {p n : Nat} (h : Ep w p n) (hb : Below w.heap.size w w') : Ep w' p n := by
  obtain ⟨W, H, tv, bv, bm, a, cap, h⟩ := h
  exact ⟨W, H, tv, bv, bm, a, cap, h.kept (Turns.of_below (S := NoB) hb) id⟩
/-- A World as New gives it. -/
def Wn (w : World) (p : Nat) (W H : Int) (tl : List Nat) (f : Int → Int → Option Int) : Prop := Wl w p W H tl f ∧ Ep w p 0
theorem Wn.kept {w w' : World} {p : Nat} {W H : Int} {tl : List Nat} {f : Int → Int → Option Int} (h : Wn w p W H tl f) (hb : Below w.heap.size w w') : Wn w' p W H tl f := ⟨h.1.kept hb, h.2.kept hb⟩
theorem Made.wn {w w' : World} {W H : Int} {tl : List Nat} {L : List Bd} {p : Nat} (h : Made w W H tl L p w') (hm : mt W H tl = true) (hb : ∀ x ∈ tl, x < 256) : Wn w' p W H tl (whoL L) ∧ Below w.heap.size w w' := by
  have h1 := h.wl hm hb
  obtain ⟨bm, tv, bv, d1, -⟩ := h
  exact ⟨⟨h1.1, W, H, tv, bv, bm, none, 0, d1⟩, h1.2⟩
def tl9 : List Nat := List.replicate 9 0
theorem make9 (w : World) : (Instr.makeSlice 22 (.int .i64 9) (.int .i64 9)).run Tryz.prog w = .ok (.slice (some ⟨w.heap.size, 0, none⟩) 9 9) (w.alloc (.cells (tl9.map (fun n => Value.int .u8 (n : Nat))).toArray 5)) := by kernel_rfl
theorem made9 (w : World) : Tls (w.alloc (.cells (tl9.map (fun n => Value.int .u8 (n : Nat))).toArray 5)) (.slice (some ⟨w.heap.size, 0, none⟩) 9 9) tl9 :=
  ⟨rfl, .inr ⟨w.heap.size, 9, _, rfl, Nat.zero_le _, heap_alloc_new w _, Nat.le_refl _, by decide, rfl, rfl⟩⟩
theorem mt9 : mt 3 3 tl9 = true := by decide
theorem lt9 : ∀ x ∈ tl9, x < 256 := by decide
theorem new9 (w : World) : Calls Tryz.prog 26 #[mp 3 3 (.slice (some ⟨w.heap.size, 0, none⟩) 9 9) (.slice none 0 0)] (w.alloc (.cells (tl9.map (fun n => Value.int .u8 (n : Nat))).toArray 5))
    fun e w' => ∃ p, e = .returned (.tuple #[ptr p, .int .i64 0]) ∧ Wl w' p 3 3 tl9 (whoL []) ∧ Below w.heap.size w w' := by
  refine (new_good 3 3 _ (.slice none 0 0) tl9 [] _ (made9 w).r lt9 (BdR.nil _) mt9).mono ?_
  rintro e w' (⟨-, p, he, hm⟩ | ⟨h, -⟩)
  · have := hm.wl mt9 lt9
    exact ⟨p, he, this.1, bt (box1 _ _) this.2⟩
  · cases h
end Go.Proofs.YtggaobcdogbjhaaGreatDoor
namespace Go.Proofs.YtggaobcdogbjhaaGreatDoor
open Go.RowKit Go.Shelf
set_option linter.unusedVariables false
set_option linter.unusedSimpArgs false
theorem Wk.ten {W H : Int} {tl : List Nat} {f : Int → Int → Option Int} {c s ix iy iw ih : Int} {a b : Int × Int} {n : Nat} (h : Wk (stepR W H tl f c s ix iy iw ih) a b n) : n = 0 ∨ 10 ≤ n := by
  induction h using Wk.ind with
  | nil => exact .inl rfl
  | snoc _ hs ih =>
    obtain ⟨t, -, -, -, h4⟩ := hs
    have := co_pos t
    omega
abbrev st9 := stepR 3 3 tl9 (whoL []) 0 1 0 0 3 3
theorem st9_a : st9 (2, 1) (1, 0) 14 := ⟨6, by decide, by decide, by decide, by decide⟩
theorem st9_b : st9 (1, 0) (0, 0) 10 := ⟨2, by decide, by decide, by decide, by decide⟩
theorem wk9_a : Wk st9 (2, 1) (1, 0) 14 := Wk.one st9_a
theorem wk9 : Wk st9 (2, 1) (0, 0) 24 := wk9_a.snoc st9_b
theorem adm9 {fx fy : Int} (hf : inB 0 0 3 3 (fx, fy)) (a : Int × Int) (n : Nat) (h : Wk st9 a (fx, fy) n) : (ocN a.1 a.2 fx fy).toNat ≤ n := by
  have := Wk.left (left := fun q : Int × Int => (ocN q.1 q.2 fx fy).toNat) (ocN_con (by omega) hf) h
  simp only [ocN_goal] at this
  omega
theorem least9_a : Least st9 (2, 1) (1, 0) 14 := ⟨wk9_a, fun m h => by have := adm9 (fx := 1) (fy := 0) (by decide) _ _ h; exact Nat.le_trans (by decide) this⟩
theorem least9 : Least st9 (2, 1) (0, 0) 24 := ⟨wk9, fun m h => by have := adm9 (fx := 0) (fy := 0) (by decide) _ _ h; exact Nat.le_trans (by decide) this⟩
theorem tab_get {ix iy iw ih : Int} {C : List Int} {q : Int × Int} {n : Nat} (hb : ∀ m ∈ C, -1 ≤ m) (h : tab ix iy iw ih C q = some n) : C[ij ix iy iw q.1 q.2]? = some (n : Int) := by
  unfold tab at h
  split at h
  · split at h
    · rename_i m hm
      split at h
      · cases h
      · injection h with h
        have := hb m (List.mem_of_getElem? hm)
        rw [hm, ← h]
        congr 1
        omega
    · cases h
  · cases h
theorem round9 : roundN 0 0 0 0 3 3 8 = [0, 1, 4] := by decide
theorem round9_b : roundN 1 0 0 0 3 3 8 = [0, 1, 2, 4, 5] := by decide
/-- The way has two cells, the first of them is the one to the East. -/
theorem way9 {C : List Int} {P : List (Int × Int)} (hC : C.length = 9) (hb : ∀ m ∈ C, -1 ≤ m ∧ m ≤ 229376) {Hq : List ((Int × Int) × Nat)} (hsk : Sk st9 (2, 1) (tab 0 0 3 3 C) Hq) (hH : ∀ q g, (q, g) ∈ Hq → 24 < g + (ocN q.1 q.2 0 0).toNat)
    (hw : Wy 3 3 tl9 (whoL []) 0 1 0 0 3 3 C 0 0 24 P) : ∃ q, P = [(1, 0), q] := by
  have hb1 : ∀ m ∈ C, -1 ≤ m := fun m h => (hb m h).1
  have t1 : tab 0 0 3 3 C (1, 0) = some 14 := hsk.ends (left := fun q : Int × Int => (ocN q.1 q.2 0 0).toNat) (adm9 (fx := 0) (fy := 0) (by decide)) hH least9_a (Wk.one st9_b) (by omega)
  have c1 := tab_get hb1 t1
  have c2 := tab_get hb1 hsk.src
  have f1 : fitF (fun d => stp 3 3 tl9 (whoL []) 0 1 0 0 (d : Int)) 0 0 3 C 0 0 24 0 = true := by
    unfold fitF
    rw [Bool.and_eq_true]
    exact ⟨by rw [decide_eq_true_eq]; exact c1, by decide⟩
  have f2 : fitF (fun d => stp 3 3 tl9 (whoL []) 0 1 1 0 (d : Int)) 0 0 3 C 1 0 14 4 = true := by
    unfold fitF
    rw [Bool.and_eq_true]
    exact ⟨by rw [decide_eq_true_eq]; exact c2, by decide⟩
  rcases Wy.inv hw with ⟨h, rfl⟩ | ⟨h, h1, rfl⟩ | ⟨pre, t, l, h, h1, h2, h3, h4, rfl⟩
  · omega
  ·
    have := h1 0 (by rw [round9]; simp)
    rw [f1] at this
    cases this
  ·
    have ht : t = 0 := by
      rw [round9] at h1
      cases pre with
      | nil => obtain ⟨r, hr⟩ := h1; simp at hr; exact hr.1
      | cons u pre =>
        obtain ⟨r, hr⟩ := h1
        simp at hr
        have := h2 u (by simp)
        rw [hr.1, f1] at this
        cases this
    subst ht
    have h5 : Wy 3 3 tl9 (whoL []) 0 1 0 0 3 3 C 1 0 14 l := h4
    rcases Wy.inv h5 with ⟨h, rfl⟩ | ⟨h, h1, rfl⟩ | ⟨pre2, t2, l2, g, g1, g2, g3, g4, rfl⟩
    · omega
    ·
      have := h1 4 (by rw [round9_b]; simp)
      rw [f2] at this
      cases this
    ·
      have hco := co_pos t2
      have hm : t2 ∈ roundN 1 0 0 0 3 3 8 := by obtain ⟨r, hr⟩ := g1; rw [← hr]; simp
      have hin := inn_in (mem_inn hm)
      unfold fitF at g3
      rw [Bool.and_eq_true, decide_eq_true_eq] at g3
      have htb := tab_of (q := (1 + dX t2.val, 0 + dY t2.val)) hin g3.1
      have hc : 14 - co ((t2.val : Nat) : Int) ≠ -1 := by omega
      rw [if_neg hc] at htb
      have hw2 := (hsk.real _ _ htb).ten
      have hz : 14 - co ((t2.val : Nat) : Int) = 0 := by omega
      rw [hz] at g4
      rcases Wy.inv g4 with ⟨-, rfl⟩ | ⟨h, -⟩ | ⟨_, _, _, h, -⟩
      · exact ⟨_, rfl⟩
      · omega
      · omega
end Go.Proofs.YtggaobcdogbjhaaGreatDoor
namespace Go.Proofs.YtggaobcdogbjhaaGreatDoor
open Go.RowKit Go.Shelf
set_option linter.unusedVariables false
set_option linter.unusedSimpArgs false
attribute [local go_sem] Oper.semAt_some
theorem find9 (p : Nat) (w : World) (hw : Wl w p 3 3 tl9 (whoL [])) (hg : Grnd w) (ho : Offs w) :
    Calls Tryz.prog 9 #[ptr p, shv 0 1, cel 0 0, cel 2 1, rct 0 0 3 3, .int .i64 9] w fun e w' => ∃ g cap, e = .returned (.tuple #[.agg #[.int .i64 1, .slice (some ⟨g, 0, none⟩) 2 cap], .int .i64 24]) ∧ (w'.cell? ⟨g, 0, none⟩ = some (.int .i64 1) ∧ w'.cell? ⟨g, 1, none⟩ = some (.int .i64 0)) ∧ 2 ≤ cap ∧ Below w.heap.size w w' := by
  refine (find_is p 3 3 tl9 (whoL []) 0 1 0 0 2 1 0 0 3 3 0 0 3 3 9 w hw hg ho (by omega) (by omega) (by unfold mtV; rw [if_pos (by decide)]; rfl) (by omega)).mono ?_
  rintro e w' ⟨o, v, cost, rfl, hB, h⟩
  have hs : ((has 0 0 3 3 0 0 && stB 3 3 tl9 (whoL []) 0 1 0 0) && (has 0 0 3 3 2 1 && stB 3 3 tl9 (whoL []) 0 1 2 1)) = true := by decide
  rcases h with ⟨q, -⟩ | ⟨-, ⟨-, -, -, q⟩ | ⟨-, -, -, q⟩ | ⟨rfl, ⟨q1, q2⟩, q3, C, P, ⟨q4, q5⟩, ⟨Hq, q6, q7⟩, q8, q9, q10⟩⟩
  · rw [hs] at q; cases q
  · omega
  · exact absurd wk9 (q 24)
  · have hc : cost = 24 := by have := q3.eq least9; omega
    subst hc
    obtain ⟨x, rfl⟩ := way9 (by rw [q4]; rfl) q5 q6 q7 q8
    obtain ⟨-, ⟨-, e⟩ | ⟨g, cap, cur, rfl, -, hg, hcap, -, hsz, hcur⟩⟩ := q9
    · cases e
    refine ⟨g, cap, rfl, ⟨?_, ?_⟩, hcap, hB⟩
    · rw [cell_of_row _ g 0 _ _ _ hg]
      have := congrArg (·[0]?) hcur
      simpa [ceCs, List.getElem?_take] using this
    · rw [cell_of_row _ g 1 _ _ _ hg]
      have := congrArg (·[1]?) hcur
      simpa [ceCs, List.getElem?_take] using this
set_option maxRecDepth 100000 in
set_option maxHeartbeats 2000000 in
theorem awake_is (w : World) (hg : Grnd w) (ho : Offs w) : Calls Tryz.prog 8 #[] w fun e w' => e = .returned (.bool true) ∧ Below w.heap.size w w' := by
  have hmk := make9
  have HN := hide (new9 w)
  go_enter Tryz.func8, Tryz.ntmps8
  go_wp2_with fail
  refine HN.out.mono ?_
  rintro e w1 ⟨p, rfl, hW, hb1⟩
  have HF := hide (find9 p w1 hW (hg.kept hb1) (ho.kept hb1))
  have HB1 := hide hb1
  clear hmk HN hW hb1
  go_wp2_with fail
  refine HF.out.mono ?_
  rintro e w2 ⟨g, cap, rfl, ⟨c0, c1⟩, hcap, hb2⟩
  have HB := hide (bt HB1.out hb2)
  obtain ⟨Y, hY⟩ : ∃ Y, w2.alloc (.cells #[.int .i64 1, .slice (some ⟨g, 0, none⟩) 2 cap] 41) = Y := ⟨_, rfl⟩
  have BY : Below w2.heap.size w2 Y := hY ▸ box1 _ _
  obtain ⟨⟨y0, y1⟩, -, -⟩ := res_cells (hY ▸ heap_alloc_new w2 (.cells #[.int .i64 1, .slice (some ⟨g, 0, none⟩) 2 cap] 41) : Y.heap[w2.heap.size]? = some (.cells #[.int .i64 1, .slice (some ⟨g, 0, none⟩) 2 cap] 41))
  have d0 := cell_later BY c0
  have d1 := cell_later BY c1
  have HY := hide hY
  have HBY := hide BY
  clear c0 c1 hb2 HF hY BY
  go_wp2_with (first | rw [HY.out] | fail)
  go_ret
  exact ⟨rfl, bt HB.out HBY.out⟩
end Go.Proofs.YtggaobcdogbjhaaGreatDoor
