/-
  A border's runs, by the document. A border's portals, by the document. A border's runs and portals, of the package and of the document, in one word.
-/
import Derived.Test.YthiafmlgialbnaaGreatDoorPRun
namespace Go.Proofs.YthiafmlgialbnaaGreatDoor
open Go.RowKit Go.Shelf
set_option linter.unusedVariables false
set_option linter.unusedSimpArgs false
attribute [local go_sem] Oper.semAt_some
/-- Where a border's first cell lies. -/
def bX (W kx d : Int) : Int := if d = 0 then kx * 8 + rS W kx - 1 else kx * 8
def bY (H ky d : Int) : Int := if d = 0 then ky * 8 else ky * 8 + rS H ky - 1
/-- Across an open pair lies another cluster, and its first cell lies in this one. -/
theorem open_of {S : Int → Int → Bool} {W H kx ky d : Int} (hW : 1 ≤ W ∧ W ≤ 128) (hH : 1 ≤ H ∧ H ≤ 128) (hS : ∀ u v, S u v = true → (0 ≤ u ∧ u < W) ∧ 0 ≤ v ∧ v < H) (hr : rB W H kx ky = true) (hd : d = 0 ∨ d = 1) {i : Nat} (hi : i < 8) (ho : opB S d (bX W kx d) (bY H ky d) i = true) :
    (clx d (bX W kx d) i / 8 = kx ∧ cly d (bY H ky d) i / 8 = ky) ∧ ¬ (sX (clx d (bX W kx d) i) (cly d (bY H ky d) i) d / 8 = kx ∧ sY (clx d (bX W kx d) i) (cly d (bY H ky d) i) d / 8 = ky) ∧ (i : Int) < (if d = 0 then rS H ky else rS W kx) ∧
      (0 ≤ clx d (bX W kx d) i ∧ clx d (bX W kx d) i ≤ 128) ∧ (0 ≤ cly d (bY H ky d) i ∧ cly d (bY H ky d) i ≤ 128) ∧ (0 ≤ sX (clx d (bX W kx d) i) (cly d (bY H ky d) i) d ∧ sX (clx d (bX W kx d) i) (cly d (bY H ky d) i) d ≤ 128) ∧ 0 ≤ sY (clx d (bX W kx d) i) (cly d (bY H ky d) i) d ∧ sY (clx d (bX W kx d) i) (cly d (bY H ky d) i) d ≤ 128 := by
  obtain ⟨hx, hy⟩ := (rB_iff hW hH).1 hr
  unfold opB lg at ho
  rw [Bool.and_eq_true, Bool.and_eq_true, Bool.and_eq_true] at ho
  obtain ⟨h1, h2, h3, -⟩ := ho
  have a1 := hS _ _ h2
  have a2 := hS _ _ h3
  rw [sX_yes h1, sY_yes h1] at a2 ⊢
  rcases hd with rfl | rfl
  · simp only [clx, cly, bX, bY, if_true, rS, dX, dY, Int.toNat_zero] at *
    omega
  · simp only [clx, cly, bX, bY, if_neg (show ¬ (1 : Int) = 0 by decide), rS, dX, dY, show (1 : Int).toNat = 1 from rfl] at *
    omega
/-- What the document's Runs tells. -/
def druL (S : Int → Int → Bool) (W H kx ky d : Int) : List Q4 := if rB W H kx ky = true ∧ (d = 0 ∨ d = 1) then (runs (opB S d (bX W kx d) (bY H ky d)) 8).1.map (rrq d (bX W kx d) (bY H ky d)) else []
end Go.Proofs.YthiafmlgialbnaaGreatDoor
namespace Go.Proofs.YthiafmlgialbnaaGreatDoor
open Go.RowKit Go.Shelf
set_option linter.unusedVariables false
set_option linter.unusedSimpArgs false
attribute [local go_sem] Oper.semAt_some
end Go.Proofs.YthiafmlgialbnaaGreatDoor
namespace Go.Proofs.YthiafmlgialbnaaGreatDoor
open Go.RowKit Go.Shelf
set_option linter.unusedVariables false
set_option linter.unusedSimpArgs false
/-- A border's runs. -/
def rnR (S : Int → Int → Bool) (W H kx ky d : Int) : List (Nat × Nat) := if rB W H kx ky = true ∧ (d = 0 ∨ d = 1) then (runs (opB S d (bX W kx d) (bY H ky d)) 8).1 else []
def rnQ (S : Int → Int → Bool) (W H kx ky d : Int) : List Q4 := (rnR S W H kx ky d).map (rrq d (bX W kx d) (bY H ky d))
def ptQ (S : Int → Int → Bool) (W H kx ky d : Int) : List Q4 := btL d (bX W kx d) (bY H ky d) (rnR S W H kx ky d)
theorem rnR_ok (S : Int → Int → Bool) (W H kx ky d : Int) : (∀ r ∈ rnR S W H kx ky d, 1 ≤ r.2 ∧ r.1 + r.2 ≤ 8) ∧ (rnR S W H kx ky d).length ≤ 8 := by
  unfold rnR
  split
  · exact (runs_ok _ 8).2
  · exact ⟨fun r h => absurd h (by simp), by simp⟩
theorem bXY_ok {W H kx ky d : Int} (hW : 1 ≤ W ∧ W ≤ 128) (hH : 1 ≤ H ∧ H ≤ 128) (hr : rB W H kx ky = true) : (0 ≤ bX W kx d ∧ bX W kx d ≤ 1000) ∧ 0 ≤ bY H ky d ∧ bY H ky d ≤ 1000 := by
  obtain ⟨hx, hy⟩ := (rB_iff hW hH).1 hr
  have h1 := rS_le hW hx
  have h2 := rS_le hH hy
  unfold bX bY
  constructor <;> (split <;> omega)
theorem may0 : may 0 0 0 0 = false := by decide
theorem pruns_is {w : World} {p : Nat} {W H : Int} {tl : List Nat} {f : Int → Int → Option Int} (c s kx ky d : Int) (hw : Wl w p W H tl f) (hg : Grnd w) (ho : Offs w) (hS : ∀ u v, stB W H tl f c s u v = true → (0 ≤ u ∧ u < W) ∧ 0 ≤ v ∧ v < H) :
    Calls Tryz.prog 157 #[ptr p, shv c s, cel kx ky, .int .i64 d] w fun e w' => ∃ lv, e = .returned lv ∧ Rq 49 w' lv (rnQ (stB W H tl f c s) W H kx ky d) ∧ Below w.heap.size w w' ∧ ∀ g, lv.ownBlock = some g → w.heap.size ≤ g := by
  obtain ⟨hW, hH⟩ := hw.sides
  by_cases hc : rB W H kx ky = true ∧ (d = 0 ∨ d = 1)
  · obtain ⟨hr, hd⟩ := hc
    obtain ⟨hx, hy⟩ := (rB_iff hW hH).1 hr
    have h1 := rS_le hW hx
    have h2 := rS_le hH hy
    obtain ⟨hX, hY⟩ := bXY_ok (d := d) hW hH hr
    have hop := fun i (hi : i < 8) => open_of (S := stB W H tl f c s) (d := d) hW hH hS hr hd (i := i) hi
    have key : ∀ n : Nat, (n : Int) = (if d = 0 then rS H ky else rS W kx) → n ≤ 8 → (runs (opB (stB W H tl f c s) d (bX W kx d) (bY H ky d)) n).1 = (runs (opB (stB W H tl f c s) d (bX W kx d) (bY H ky d)) 8).1 := fun n hn h8 => by
      refine (runs_more (fun j hj hj8 => ?_) h8).symm
      cases ho : opB (stB W H tl f c s) d (bX W kx d) (bY H ky d) j
      · rfl
      · have := (hop j hj8 ho).2.2.1
        rw [← hn] at this
        omega
    have hrn : rnQ (stB W H tl f c s) W H kx ky d = (runs (opB (stB W H tl f c s) d (bX W kx d) (bY H ky d)) 8).1.map (rrq d (bX W kx d) (bY H ky d)) := by rw [rnQ, rnR, if_pos ⟨hr, hd⟩]
    rw [hrn]
    rcases hd with rfl | rfl
    · obtain ⟨n, hn⟩ := Int.eq_ofNat_of_zero_le (show 0 ≤ rS H ky by omega)
      have hm : may (bX W kx 0) (bY H ky 0) 1 (n : Nat) = true := (may_iff _ _ _ _).2 (by omega)
      have hb : bdV W H kx ky 0 = rct (bX W kx 0) (bY H ky 0) 1 (n : Nat) := by rw [bdV, if_pos hr, if_pos rfl, hn]; rfl
      have := runs_of c s kx ky 0 (bX W kx 0) (bY H ky 0) 1 (n : Nat) n hw hg ho hb (fun _ => ⟨.inl ⟨rfl, rfl, rfl⟩, by omega, hX, hY⟩)
      rw [runL, if_pos hm, key n (by rw [if_pos rfl, hn]) (by omega)] at this
      exact this
    · obtain ⟨n, hn⟩ := Int.eq_ofNat_of_zero_le (show 0 ≤ rS W kx by omega)
      have hm : may (bX W kx 1) (bY H ky 1) (n : Nat) 1 = true := (may_iff _ _ _ _).2 (by omega)
      have hb : bdV W H kx ky 1 = rct (bX W kx 1) (bY H ky 1) (n : Nat) 1 := by rw [bdV, if_pos hr, if_neg (by decide), if_pos rfl, hn]; rfl
      have := runs_of c s kx ky 1 (bX W kx 1) (bY H ky 1) (n : Nat) 1 n hw hg ho hb (fun _ => ⟨.inr ⟨rfl, rfl, rfl⟩, by omega, hX, hY⟩)
      rw [runL, if_pos hm, key n (by rw [if_neg (by decide), hn]) (by omega)] at this
      exact this
  · have hb : bdV W H kx ky d = rct 0 0 0 0 := by
      unfold bdV
      split
      · rename_i hr
        have h0 : ¬ d = 0 := fun h => hc ⟨hr, .inl h⟩
        have h1 : ¬ d = 1 := fun h => hc ⟨hr, .inr h⟩
        rw [if_neg h0, if_neg h1]
      · rfl
    have := runs_of c s kx ky d 0 0 0 0 0 hw hg ho hb (fun h => by rw [may0] at h; cases h)
    rw [runL, if_neg (by rw [may0]; decide)] at this
    rw [rnQ, rnR, if_neg hc]
    exact this
theorem pbet_is {w : World} {p : Nat} {W H : Int} {tl : List Nat} {f : Int → Int → Option Int} (c s kx ky d : Int) (hw : Wl w p W H tl f) (hg : Grnd w) (ho : Offs w) (hS : ∀ u v, stB W H tl f c s u v = true → (0 ≤ u ∧ u < W) ∧ 0 ≤ v ∧ v < H) :
    Calls Tryz.prog 124 #[ptr p, shv c s, cel kx ky, .int .i64 d] w fun e w' => ∃ lv, e = .returned lv ∧ Rq 122 w' lv (ptQ (stB W H tl f c s) W H kx ky d) ∧ Below w.heap.size w w' ∧ ∀ g, lv.ownBlock = some g → w.heap.size ≤ g := by
  obtain ⟨hW, hH⟩ := hw.sides
  obtain ⟨h1, h2⟩ := rnR_ok (stB W H tl f c s) W H kx ky d
  by_cases hc : rB W H kx ky = true ∧ (d = 0 ∨ d = 1)
  · obtain ⟨hX, hY⟩ := bXY_ok (d := d) hW hH hc.1
    exact between_of c s kx ky (by rcases hc.2 with h | h; exact .inl h; exact .inr (.inl h)) hX hY h1 h2 ho (fun wx q => pruns_is c s kx ky d (hw.kept q) (hg.kept q) (ho.kept q) hS)
  · have he : rnR (stB W H tl f c s) W H kx ky d = [] := by rw [rnR, if_neg hc]
    have := between_of (w := w) (p := p) (d := d) (X := 0) (Y := 0) (R := []) c s kx ky (.inr (.inr rfl)) (by omega) (by omega) (fun r h => by cases h) (by simp) ho (fun wx q => by
      have := pruns_is c s kx ky d (hw.kept q) (hg.kept q) (ho.kept q) hS
      rw [rnQ, he] at this
      exact this)
    rw [ptQ, he]
    exact this
end Go.Proofs.YthiafmlgialbnaaGreatDoor
