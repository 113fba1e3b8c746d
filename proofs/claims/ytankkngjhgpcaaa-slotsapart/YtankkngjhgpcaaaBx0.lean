/-
  Boxes as numbers: what two rectangles' hull is, the hull of all footprints; what both Hulls tell.
-/
import Derived.Test.YtankkngjhgpcaaaHull
import Derived.Test.YtankkngjhgpcaaaRefHull
import Derived.Test.YtankkngjhgpcaaaSml
namespace Go.Proofs.Ytankkngjhgpcaaa
open Go.RowKit
set_option linter.unusedVariables false
set_option linter.unusedSimpArgs false
/-- A rectangle: at, width, height. -/
abbrev R4 := Int × Int × Int × Int
abbrev rv (r : R4) : Value := rc4 r.1 r.2.1 r.2.2.1 r.2.2.2
def r4s (r : R4) : List Value := [.int .i64 r.1, .int .i64 r.2.1, .int .i64 r.2.2.1, .int .i64 r.2.2.2]
/-- It is not far off. -/
def inB (r : R4) : Prop := (-100000 ≤ r.1 ∧ r.1 + r.2.2.1 ≤ 100000 ∧ 1 ≤ r.2.2.1) ∧ (-100000 ≤ r.2.1 ∧ r.2.1 + r.2.2.2 ≤ 100000 ∧ 1 ≤ r.2.2.2)
theorem inB.may {r : R4} (h : inB r) : may r.1 r.2.1 r.2.2.1 r.2.2.2 = true := by
  obtain ⟨⟨a, b, c⟩, d, e, f⟩ := h
  rw [may_iff]
  omega
def hulF (r s : R4) : R4 := (min r.1 s.1, min r.2.1 s.2.1, max (r.1 + r.2.2.1 - 1) (s.1 + s.2.2.1 - 1) - min r.1 s.1 + 1, max (r.2.1 + r.2.2.2 - 1) (s.2.1 + s.2.2.2 - 1) - min r.2.1 s.2.1 + 1)
theorem inB.hul {r s : R4} (h : inB r) (k : inB s) : inB (hulF r s) := by
  obtain ⟨⟨a, b, c⟩, d, e, f⟩ := h
  obtain ⟨⟨a', b', c'⟩, d', e', f'⟩ := k
  unfold inB hulF
  dsimp only
  omega
theorem hulF_self {r : R4} : hulF r r = r := by
  obtain ⟨x, y, a, b⟩ := r
  unfold hulF
  simp only [Prod.mk.injEq]
  omega
theorem huV_in {r s : R4} (h : inB r) (k : inB s) : huV r.1 r.2.1 r.2.2.1 r.2.2.2 s.1 s.2.1 s.2.2.1 s.2.2.2 = rv (hulF r s) := by
  rw [huV_yes]
  · rfl
  · rw [huB_eq h.may k.may]
    exact (h.hul k).may
theorem hull_in {r s : R4} (w : World) (h : inB r) (k : inB s) : Calls Try.prog 22 #[rv r, rv s] w fun e w' => e = .returned (rv (hulF r s)) ∧ Below w.heap.size w w' := by
  rw [← huV_in h k]
  exact hull_any _ _ _ _ _ _ _ _ w
theorem refhull_in {r s : R4} (w : World) (h : inB r) (k : inB s) : Calls Try.prog 23 #[rv r, rv s] w fun e w' => e = .returned (rv (hulF r s)) ∧ Below w.heap.size w w' := by
  rw [← huV_in h k]
  exact refhull_any _ _ _ _ _ _ _ _ w
/-- The footprint of the unit i. -/
def ftAt (L : List (Int × Int)) (x y : Int) (i : Nat) : R4 := ((layAt L.length (pitchF L 0) x y i).1, (layAt L.length (pitchF L 0) x y i).2, (L.getD i (0, 1)).2, (L.getD i (0, 1)).2)
/-- The box of the first one and of the first k. -/
def bxF (f : Nat → R4) : Nat → R4
  | 0 => f 0
  | k + 1 => hulF (bxF f k) (f k)
theorem bxF_one (f : Nat → R4) : bxF f 1 = f 0 := hulF_self
def boxV (L : List (Int × Int)) (x y : Int) : R4 := if layE L x y = 0 then bxF (ftAt L x y) L.length else (0, 0, 0, 0)
def BxE (w : World) (L : List (Int × Int)) (x y : Int) (e : Ending) (w' : World) : Prop :=
  e = .returned (.tuple #[rv (boxV L x y), .int .i64 (layE L x y)]) ∧ Below w.heap.size w w'
theorem ft_in {L : List (Int × Int)} {x y : Int} (h : layE L x y = 0) {i : Nat} {q : Int × Int} (hq : L[i]? = some q) : inB (ftAt L x y i) ∧ mayS q = true ∧ (ftAt L x y i) = ((layAt L.length (pitchF L 0) x y i).1, (layAt L.length (pitchF L 0) x y i).2, q.2, q.2) := by
  obtain ⟨hl, hall, hpos, hx, hy⟩ := layE_ok h
  have hi := (List.getElem?_eq_some_iff.1 hq).1
  obtain ⟨p0, p4⟩ := pitch_ok hall
  have hb := layAt_bound (x := x) (y := y) hl hi p0 p4
  have hm : mayS q = true := List.all_eq_true.1 hall q (List.mem_of_getElem? hq)
  have hs := ((mayS_iff q).1 hm).2.2
  have e : ftAt L x y i = ((layAt L.length (pitchF L 0) x y i).1, (layAt L.length (pitchF L 0) x y i).2, q.2, q.2) := by
    have hg : L.getD i (0, 1) = q := by rw [List.getD_eq_getElem?_getD, hq]; rfl
    unfold ftAt
    rw [hg]
  refine ⟨?_, hm, e⟩
  rw [e]
  unfold inB
  dsimp only
  omega
theorem bx_in {L : List (Int × Int)} {x y : Int} (h : layE L x y = 0) : ∀ k, k ≤ L.length → inB (bxF (ftAt L x y) k)
  | 0, _ => by
    obtain ⟨q, hq⟩ : ∃ q, L[0]? = some q := ⟨_, List.getElem?_eq_getElem (layE_ok h).2.2.1⟩
    exact (ft_in h hq).1
  | k + 1, hk => by
    obtain ⟨q, hq⟩ : ∃ q, L[k]? = some q := ⟨_, List.getElem?_eq_getElem (show k < L.length from hk)⟩
    exact (bx_in h k (by omega)).hul (ft_in h hq).1
theorem BxE.no {w w' : World} {L : List (Int × Int)} {x y : Int} (h0 : layE L x y ≠ 0) (hb : Below w.heap.size w w') : BxE w L x y (.returned (.tuple #[rv (0, 0, 0, 0), .int .i64 (layE L x y)])) w' :=
  ⟨by rw [boxV, if_neg h0], hb⟩
theorem BxE.yes {w w' : World} {L : List (Int × Int)} {x y : Int} (h0 : layE L x y = 0) (hb : Below w.heap.size w w') : BxE w L x y (.returned (.tuple #[rv (bxF (ftAt L x y) L.length), .int .i64 0])) w' :=
  ⟨by rw [boxV, if_pos h0, h0], hb⟩
end Go.Proofs.Ytankkngjhgpcaaa
