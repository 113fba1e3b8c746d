/-
  What cell.Cells hands back goes through: a rectangle's cells, row by row.
-/
import Derived.Test.YtekpamilcpeanaaDoorLats
import Derived.Test.YtekpamilcpeanaaDoorWho
import Derived.RangeFuncNested
import Derived.RangeFuncBound
import Derived.RangeFuncCalls
import Derived.RangeFuncLeaves
import Derived.Shelf.Abstract
import Derived.Shelf.RegionOpen
import Derived.WalkKit
import Derived.OwnWalkIn
import Derived.TacticsInMore
import Derived.LoopNIn
import Derived.LoopIn
namespace Go.Proofs.YtekpamilcpeanaaDoor
open Go.RowKit Go.Shelf
set_option linter.unusedVariables false
attribute [local go_sem] Oper.semAt_some
/-- A cell whose numbers are numbers of 64 bits. -/
abbrev Cel := { p : Int × Int // W64 p.1 ∧ W64 p.2 }
def mkC (p : Int × Int) : Cel := if h : W64 p.1 ∧ W64 p.2 then ⟨p, h⟩ else ⟨(0, 0), by decide, by decide⟩
theorem mkC_is {p : Int × Int} (h : W64 p.1 ∧ W64 p.2) : (mkC p).1 = p := by rw [mkC, dif_pos h]
def cellAt (x y : Int) (A i : Nat) : Int × Int := (x + (i % A : Nat), y + (i / A : Nat))
def upto (x y : Int) (A k : Nat) : List Cel := (List.range k).map (fun i => mkC (cellAt x y A i))
theorem upto_succ (x y : Int) (A k : Nat) : upto x y A (k + 1) = upto x y A k ++ [mkC (cellAt x y A k)] := by simp [upto, List.range_succ]
theorem upto_length (x y : Int) (A k : Nat) : (upto x y A k).length = k := by simp [upto]
theorem upto_zero (x y : Int) (A : Nat) : upto x y A 0 = [] := rfl
theorem cellAt_row (x y : Int) (A k j : Nat) (hj : j < A) : cellAt x y A (k * A + j) = (x + (j : Nat), y + (k : Nat)) := by
  unfold cellAt
  rw [Nat.mul_comm k A, Nat.mul_add_mod, Nat.mod_eq_of_lt hj, Nat.mul_add_div (by omega), Nat.div_eq_of_lt hj, Nat.add_zero]
theorem upto_prefix (x y : Int) (A : Nat) {k m : Nat} (h : k ≤ m) : upto x y A k <+: upto x y A m := by
  obtain ⟨d, rfl⟩ := Nat.le.dest h
  exact ⟨(List.range d).map (fun i => mkC (cellAt x y A (k + i))), by simp [upto, List.range_add, Function.comp_def]⟩
abbrev encC (p : Cel) : Array Value := #[.agg #[.int .i64 p.1.1, .int .i64 p.1.2]]
def allC (x y a b : Int) : List Cel := if may x y a b = true then upto x y a.toNat (b.toNat * a.toNat) else []
theorem below_grown {W W' : World} (h : Below W.heap.size W W') : W.grownBy W' none := ⟨h.os, h.tape, h.output, h.size, fun k hk _ => h.block k hk⟩
theorem abides_below {β : Type} {B : Nat} {J : β → World → Prop} (hJ : AbidesFrom B J) {s : β} {W W' : World} (hs : J s W) (h : Below W.heap.size W W') : J s W' := hJ s W W' none hs (below_grown h) (fun r e => by cases e)
theorem row_lt {k j A Bn N : Nat} (hk : k < Bn) (hj : j < A) (hN : Bn * A ≤ N) : k * A + j < N := by
  have h1 : (k + 1) * A ≤ Bn * A := Nat.mul_le_mul_right A hk
  rw [Nat.succ_mul] at h1
  omega
theorem row_le {k j A Bn : Nat} (hk : k < Bn) (hj : j < A) : k * A + j + 1 ≤ Bn * A := row_lt hk hj (Nat.le_refl _)
theorem row_end (k A : Nat) : k * A + A = (k + 1) * A := (Nat.succ_mul k A).symm
/-- One block is as it was. -/
def KB (B : Nat) (W W' : World) : Prop := W'.heap[B]? = W.heap[B]?
theorem kB_t {B : Nat} {X Y Z : World} (h : KB B X Y) (k : KB B Y Z) : KB B X Z := Eq.trans k h
theorem kB_b {B : Nat} {w : World} (hB : B < w.heap.size) (W : World) (l : Nat) (o o' : Obj) (hl : w.heap.size ≤ l) (h : W.heap[l]? = some o) (_ : o.isCells = false) (_ : o.isWalk = false) : KB B W (W.putObj l o') :=
  (grownBy_putObj' W l o').block B (by have := (Array.getElem?_eq_some_iff.1 h).1; omega) (fun e => by cases e; omega)
theorem kB_below {B n₀ : Nat} {W W' : World} (h : Below n₀ W W') (hB : B < n₀) : KB B W W' := h.block B hB
theorem kB_cell {B : Nat} {W W' : World} (h : KB B W W') (o : Nat) : W'.cell? ⟨B, o, none⟩ = W.cell? ⟨B, o, none⟩ := World.cell?_of_block (a := ⟨B, o, none⟩) h
set_option maxRecDepth 100000 in
set_option maxHeartbeats 2000000 in
theorem cells_stops (n B N : Nat) (x y a b : Int) (w : World) (hF : Four w B x y a b) (hN : may x y a b = true → b.toNat * a.toNat ≤ N) :
    SeqStopsK Fence.wide n Tryd.prog 84 #[.pointer (some ⟨B, 0, none⟩)] encC (KB B) (fun xs => xs = allC x y a b) (fun pre => pre <+: allC x y a b) N w := fun l J Jx W hW hJ hJx hY h0 => by
  refine callsIn_of_wp Tryd.func84 rfl trivial ?_ rfl
  simp only [Tryd.ntmps84, List.size_toArray, List.length_cons, List.length_nil, Nat.reduceAdd, Nat.reduceSub, Array.replicate_succ, Array.replicate_zero, List.push_toArray, List.append_toArray, List.nil_append, List.cons_append]
  obtain ⟨⟨c0, c1, c2, c3⟩, _, z0⟩ := hF.kept hW
  cases hm : may x y a b
  · gi_wp2_with fail
    refine ⟨trivial, fun h => (by cases h), ?_⟩
    refine (callsIn_wide.2 (may_is _ hm)).mono ?_
    rintro e w1 ⟨rfl, hb1⟩
    gi_wp2_with fail
    refine bodyPost_ret (results_none rfl _ _ _) rfl ?_
    exact ⟨⟨_, rfl⟩, .inl ⟨[], by simp [allC, hm], abides_below hJ h0 hb1⟩⟩
  · have hall : allC x y a b = upto x y a.toNat (b.toNat * a.toNat) := by simp [allC, hm]
    obtain ⟨⟨⟨x0, x1⟩, y0, y1⟩, ⟨a0, a1⟩, ⟨b0, b1⟩, _⟩ := (may_iff _ _ _ _).1 hm
    obtain ⟨A, hA⟩ := Int.eq_ofNat_of_zero_le (show 0 ≤ a by omega)
    obtain ⟨Bn, hBn⟩ := Int.eq_ofNat_of_zero_le (show 0 ≤ b by omega)
    subst hA; subst hBn
    have hN' := hN hm
    rw [Int.toNat_natCast, Int.toNat_natCast] at hall hN'
    have Hall := hide hall
    have HN := hide hN'
    clear hall hN hN'
    gi_wp2_with fail
    refine ⟨trivial, fun h => (by cases h), ?_⟩
    refine (callsIn_wide.2 (may_is _ hm)).mono ?_
    rintro e w1 ⟨rfl, hb1⟩
    have F1 := (hF.kept hW).kept hb1
    have j1 := abides_below hJ h0 hb1
    have HB1 := hide (show KB B W w1 from kB_below hb1 z0)
    clear hb1
    obtain ⟨⟨c4, c5, c6, c7⟩, _, z1⟩ := id F1
    gi_wp2_with fail
    gi_loopw [10] (fun d wr => ∃ k : Nat, k ≤ Bn ∧ d = .int .i64 k ∧ J (upto x y A (k * A)) wr ∧ KB B W wr) (fun d _ => Bn - (intOf d).toNat)
    case atStart =>
      exact ⟨0, Nat.zero_le _, rfl, by rw [Nat.zero_mul]; exact j1, HB1.out⟩
    case round =>
      obtain ⟨k, hk, rfl, hJk, hBk⟩ := hrel
      rename World => wo
      have c8 := (kB_cell hBk 0).trans c0
      have c9 := (kB_cell hBk 1).trans c1
      have c10 := (kB_cell hBk 2).trans c2
      have c11 := (kB_cell hBk 3).trans c3
      by_cases hlt : k < Bn
      · gi_wp2_with fail
        gi_loopw [15] (fun d wr => ∃ j : Nat, j ≤ A ∧ d = .int .i64 j ∧ J (upto x y A (k * A + j)) wr ∧ KB B W wr) (fun d _ => A - (intOf d).toNat)
        case atStart =>
          exact ⟨0, Nat.zero_le _, rfl, hJk, hBk⟩
        case round =>
          obtain ⟨j, hj, rfl, hJj, hBj⟩ := hrel
          have d0 := (kB_cell hBj 0).trans c0
          have d1 := (kB_cell hBj 1).trans c1
          by_cases hjt : j < A
          · obtain ⟨fn, tmps, assign, body, hy, hR⟩ := hY (upto x y A (k * A + j)) (mkC (x + (j : Nat), y + (k : Nat))) wr hJj (by rw [upto_length]; exact row_lt hlt hjt HN.out)
            have hmk : (mkC (x + (j : Nat), y + (k : Nat))).1 = (x + (j : Nat), y + (k : Nat)) := mkC_is ⟨w64_of (by dsimp only; omega), w64_of (by dsimp only; omega)⟩
            dsimp only [encC] at hy
            rw [hmk] at hy
            dsimp only at hy
            gi_wp2_with fail
            refine ⟨fun h => (by cases h), ?_⟩
            refine hR.mono ?_
            rintro e W3 (⟨rfl, hJ3, hk3⟩ | ⟨rfl, hJx3⟩)
            · gi_wp2_with fail
              go_roundw
              case rel => exact ⟨j + 1, by omega, by go_num, by rw [← Nat.add_assoc, upto_succ, cellAt_row x y A k j hjt]; exact hJ3, kB_t hBj hk3⟩
              case measure => simp [intOf]; omega
            · gi_wp2_with fail
              refine bodyPost_ret (results_none rfl _ _ _) rfl ?_
              refine ⟨⟨_, rfl⟩, .inr ⟨_, ?_, hJx3⟩⟩
              rw [← cellAt_row x y A k j hjt, ← upto_succ, Hall.out]
              exact upto_prefix x y A (row_le hlt hjt)
          · have hja : j = A := by omega
            subst hja
            gi_wp2_with fail
            go_roundw
            case rel => exact ⟨k + 1, by omega, by go_num, by rw [← row_end]; exact hJj, hBj⟩
            case measure => simp [intOf]; omega
      · have hkb : k = Bn := by omega
        subst hkb
        gi_wp2_with fail
        go_end0
        exact ⟨⟨_, rfl⟩, .inl ⟨_, Hall.out.symm, hJk⟩⟩
end Go.Proofs.YtekpamilcpeanaaDoor
