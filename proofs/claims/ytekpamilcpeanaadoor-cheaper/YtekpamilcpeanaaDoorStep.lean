/-
  Directions: where each leads to; Step of the package and of the reference.
-/
import Derived.Test.YtekpamilcpeanaaDoorBase
import Derived.Deep.RegionHeld3
namespace Go.Proofs.YtekpamilcpeanaaDoor
open Go.RowKit
set_option linter.unusedVariables false
def dX (k : Nat) : Int := match k with
  | 0 => 1 | 1 => 0 | 2 => -1 | 3 => 0 | 4 => 1 | 5 => -1 | 6 => -1 | 7 => 1 | _ => 0
def dY (k : Nat) : Int := match k with
  | 0 => 0 | 1 => 1 | 2 => 0 | 3 => -1 | 4 => 1 | 5 => 1 | 6 => -1 | 7 => -1 | _ => 0
theorem dX_range (k : Nat) : -1 ≤ dX k ∧ dX k ≤ 1 := by unfold dX; split <;> omega
theorem dY_range (k : Nat) : -1 ≤ dY k ∧ dY k ≤ 1 := by unfold dY; split <;> omega
def isD (d : Int) : Bool := decide (0 ≤ d ∧ d < 8)
theorem isD_iff (d : Int) : isD d = true ↔ (0 ≤ d ∧ d < 8) := by simp [isD]
theorem isD_not (d : Int) : isD d = false ↔ ¬ (0 ≤ d ∧ d < 8) := by simp only [isD, decide_eq_false_iff_not]
def sB (x y d : Int) : Bool := isD d && nrC x y && nrC (x + dX d.toNat) (y + dY d.toNat)
def sX (x y d : Int) : Int := if sB x y d = true then x + dX d.toNat else 0
def sY (x y d : Int) : Int := if sB x y d = true then y + dY d.toNat else 0
/-- The table of where directions lead lies in the first variable's block. -/
def Offs (w : World) : Prop := 0 < w.heap.size ∧ ∀ k : Nat, k < 8 → w.cell? ⟨0, k * 2, none⟩ = some (.int .i64 (dX k)) ∧ w.cell? ⟨0, k * 2 + 1, none⟩ = some (.int .i64 (dY k))
theorem Offs.kept {w w' : World} (h : Offs w) (hb : Below w.heap.size w w') : Offs w' :=
  ⟨Nat.lt_of_lt_of_le h.1 hb.size, fun k hk => ⟨(hb.cell (p := ⟨0, k * 2, none⟩) h.1).trans (h.2 k hk).1, (hb.cell (p := ⟨0, k * 2 + 1, none⟩) h.1).trans (h.2 k hk).2⟩⟩
set_option maxHeartbeats 400000 in
theorem isdir_any (d : Int) (w : World) : Calls Tryd.prog 79 #[.int .i64 d] w fun e w' => e = .returned (.bool (isD d)) ∧ w' = w := by
  by_cases h1 : 0 ≤ d
  · by_cases h2 : d < 8
    · go_enter Tryd.func79, Tryd.ntmps79
      go_wp2
      go_ret
      exact ⟨ret_bool (by simp [isD, h1, h2]), rfl⟩
    · go_enter Tryd.func79, Tryd.ntmps79
      go_wp2
      go_ret
      exact ⟨ret_bool (by simp [isD, h1, h2]), rfl⟩
  · go_enter Tryd.func79, Tryd.ntmps79
    go_wp2
    go_ret
    exact ⟨ret_bool (by rw [eq_comm, isD_not]; omega), rfl⟩
theorem sB_no1 {x y d : Int} (h : isD d = false) : sB x y d = false := by simp [sB, h]
theorem sB_no2 {x y d : Int} (h : nrC x y = false) : sB x y d = false := by simp [sB, h]
theorem sX_no {x y d : Int} (h : sB x y d = false) : sX x y d = 0 := by simp [sX, h]
theorem sY_no {x y d : Int} (h : sB x y d = false) : sY x y d = 0 := by simp [sY, h]
theorem sX_yes {x y d : Int} (h : sB x y d = true) : sX x y d = x + dX d.toNat := by simp [sX, h]
theorem sY_yes {x y d : Int} (h : sB x y d = true) : sY x y d = y + dY d.toNat := by simp [sY, h]
theorem ret_step {x y a b : Int} {s t : Bool} (h1 : a = x) (h2 : b = y) (h3 : s = t) : Ending.returned (.tuple #[.agg #[.int .i64 a, .int .i64 b], .bool s]) = .returned (.tuple #[.agg #[.int .i64 x, .int .i64 y], .bool t]) := by rw [h1, h2, h3]
set_option maxHeartbeats 1000000 in
theorem step_no1 (x y d : Int) (w : World) (h : isD d = false) :
    Calls Tryd.prog 57 #[.agg #[.int .i64 x, .int .i64 y], .int .i64 d] w fun e w' => e = .returned (.tuple #[.agg #[.int .i64 (sX x y d), .int .i64 (sY x y d)], .bool (sB x y d)]) ∧ Below w.heap.size w w' := by
  have h3 := sB_no1 (x := x) (y := y) h
  rw [sX_no h3, sY_no h3, h3]
  clear h3
  go_enter Tryd.func57, Tryd.ntmps57
  go_wp2_with (go_at_call 79; refine (isdir_any _ _).mono ?_; rintro e w' ⟨rfl, rfl⟩)
  refine bodyPost_ret (v := .tuple #[.agg #[.int .i64 0, .int .i64 0], .bool false]) (by simp [results, Tryd.results57, go_sem]) rfl ⟨rfl, ?_⟩
  exact box2 _ _ _
set_option maxHeartbeats 1000000 in
theorem step_no2 (x y d : Int) (w : World) (h : isD d = true) (hn : nrC x y = false) :
    Calls Tryd.prog 57 #[.agg #[.int .i64 x, .int .i64 y], .int .i64 d] w fun e w' => e = .returned (.tuple #[.agg #[.int .i64 (sX x y d), .int .i64 (sY x y d)], .bool (sB x y d)]) ∧ Below w.heap.size w w' := by
  have h3 := sB_no2 (d := d) hn
  rw [sX_no h3, sY_no h3, h3]
  clear h3
  go_enter Tryd.func57, Tryd.ntmps57
  go_wp2_with (first | (go_at_call 79; refine (isdir_any _ _).mono ?_; rintro e w' ⟨rfl, rfl⟩) | (go_at_call 24; refine (near_any _ _ _).mono ?_; rintro e w1 ⟨rfl, hb⟩; obtain ⟨hc, hf⟩ := bcell hb; have hz := hb.size; simp at hz))
  refine bodyPost_ret (v := .tuple #[.agg #[.int .i64 0, .int .i64 0], .bool false]) (by simp [results, Tryd.results57, go_sem, hc]) rfl ⟨rfl, ?_⟩
  exact set2 (bt (box2 _ _ _) hb) (by simp) (by simp)
theorem wrap_id {n : Int} (h0 : -9223372036854775808 ≤ n) (h1 : n ≤ 9223372036854775807) : IntKind.i64.wrap n = n := by
  rw [IntKind.wrap_i64]; omega
set_option maxHeartbeats 1000000 in
theorem step_off (x y : Int) (k : Nat) (w : World) (hk : k < 8) (ho : Offs w) (hn : nrC x y = true) (hm : nrC (x + dX k) (y + dY k) = false) :
    Calls Tryd.prog 57 #[.agg #[.int .i64 x, .int .i64 y], .int .i64 k] w fun e w' => e = .returned (.tuple #[.agg #[.int .i64 (sX x y k), .int .i64 (sY x y k)], .bool (sB x y k)]) ∧ Below w.heap.size w w' := by
  have h : isD (k : Int) = true := (isD_iff _).2 (by omega)
  have h3 : sB x y k = false := by simp [sB, h, hn, hm]
  rw [sX_no h3, sY_no h3, h3]
  clear h3
  go_enter Tryd.func57, Tryd.ntmps57
  go_wp2_with (first | (go_at_call 79; refine (isdir_any _ _).mono ?_; rintro e w' ⟨rfl, rfl⟩) | (go_at_call 24; refine (near_any _ _ _).mono ?_; rintro e w1 ⟨rfl, hb⟩; obtain ⟨hc, hf⟩ := bcell hb; have hz := hb.size; simp at hz))
  have HB := hide (bt (box2 w _ _) hb)
  have ho' := Offs.kept ho HB.out
  obtain ⟨o1, o2⟩ := ho'.2 k hk
  obtain ⟨⟨c0, c1⟩, _, z0⟩ := cells2' hb
  obtain ⟨⟨e0, e1⟩, ⟨f0, f1⟩, z1⟩ := cells2'' hb
  have k0 : (0 : Int) ≤ (k : Int) := by omega
  have k1 : (k : Int) < 8 := by omega
  clear ho hc hf hb hz
  have wx : IntKind.i64.wrap (x + dX k) = x + dX k := by
    obtain ⟨⟨x0, x1⟩, y0, y1⟩ := (nrC_iff x y).1 hn
    obtain ⟨dx0, dx1⟩ := dX_range k
    exact wrap_id (by omega) (by omega)
  have wy : IntKind.i64.wrap (y + dY k) = y + dY k := by
    obtain ⟨⟨x0, x1⟩, y0, y1⟩ := (nrC_iff x y).1 hn
    obtain ⟨dx0, dx1⟩ := dY_range k
    exact wrap_id (by omega) (by omega)
  go_region_held3 (fun w' => (w'.cell? ⟨w.heap.size, 0, none⟩ = some (.int .i64 x) ∧ w'.cell? ⟨w.heap.size, 1, none⟩ = some (.int .i64 y)) ∧ (w'.cell? ⟨0, k * 2, none⟩ = some (.int .i64 (dX k)) ∧ w'.cell? ⟨0, k * 2 + 1, none⟩ = some (.int .i64 (dY k)))) (go_keep) (fail)
  go_wp2_with (go_at_call 24; refine (near_any _ _ _).mono ?_; rintro e w2 ⟨rfl, hb2⟩; obtain ⟨⟨g0, g1⟩, ⟨gf0, gf1⟩, z2⟩ := cells2d hb2; have HB2 := hide (bt (box1d _ _) hb2); obtain ⟨⟨e2, e3⟩, f2, f3⟩ := Below.two HB2.out z1 e0 e1 f0 f1; clear hb2 e0 e1 f0 f1)
  refine bodyPost_ret (v := .tuple #[.agg #[.int .i64 0, .int .i64 0], .bool false]) (by simp [results, Tryd.results57, go_sem, e2, e3]) rfl ⟨rfl, ?_⟩
  exact set2 (bt HB.out HB2.out) (by simp) (by simp)
set_option maxHeartbeats 1000000 in
theorem step_yes (x y : Int) (k : Nat) (w : World) (hk : k < 8) (ho : Offs w) (hn : nrC x y = true) (hm : nrC (x + dX k) (y + dY k) = true) :
    Calls Tryd.prog 57 #[.agg #[.int .i64 x, .int .i64 y], .int .i64 k] w fun e w' => e = .returned (.tuple #[.agg #[.int .i64 (sX x y k), .int .i64 (sY x y k)], .bool (sB x y k)]) ∧ Below w.heap.size w w' := by
  have h : isD (k : Int) = true := (isD_iff _).2 (by omega)
  have h3 : sB x y k = true := by simp [sB, h, hn, hm]
  rw [sX_yes h3, sY_yes h3, h3, Int.toNat_natCast]
  clear h3
  go_enter Tryd.func57, Tryd.ntmps57
  go_wp2_with (first | (go_at_call 79; refine (isdir_any _ _).mono ?_; rintro e w' ⟨rfl, rfl⟩) | (go_at_call 24; refine (near_any _ _ _).mono ?_; rintro e w1 ⟨rfl, hb⟩; obtain ⟨hc, hf⟩ := bcell hb; have hz := hb.size; simp at hz))
  have HB := hide (bt (box2 w _ _) hb)
  have ho' := Offs.kept ho HB.out
  obtain ⟨o1, o2⟩ := ho'.2 k hk
  obtain ⟨⟨c0, c1⟩, _, z0⟩ := cells2' hb
  obtain ⟨⟨e0, e1⟩, ⟨f0, f1⟩, z1⟩ := cells2'' hb
  have k0 : (0 : Int) ≤ (k : Int) := by omega
  have k1 : (k : Int) < 8 := by omega
  clear ho hc hf hb hz
  have wx : IntKind.i64.wrap (x + dX k) = x + dX k := by
    obtain ⟨⟨x0, x1⟩, y0, y1⟩ := (nrC_iff x y).1 hn
    obtain ⟨dx0, dx1⟩ := dX_range k
    exact wrap_id (by omega) (by omega)
  have wy : IntKind.i64.wrap (y + dY k) = y + dY k := by
    obtain ⟨⟨x0, x1⟩, y0, y1⟩ := (nrC_iff x y).1 hn
    obtain ⟨dx0, dx1⟩ := dY_range k
    exact wrap_id (by omega) (by omega)
  go_region_held3 (fun w' => (w'.cell? ⟨w.heap.size, 0, none⟩ = some (.int .i64 x) ∧ w'.cell? ⟨w.heap.size, 1, none⟩ = some (.int .i64 y)) ∧ (w'.cell? ⟨0, k * 2, none⟩ = some (.int .i64 (dX k)) ∧ w'.cell? ⟨0, k * 2 + 1, none⟩ = some (.int .i64 (dY k)))) (go_keep) (fail)
  go_wp2_with (go_at_call 24; refine (near_any _ _ _).mono ?_; rintro e w2 ⟨rfl, hb2⟩; obtain ⟨⟨g0, g1⟩, ⟨gf0, gf1⟩, z2⟩ := cells2d hb2; have HB2 := hide (bt (box1d _ _) hb2); obtain ⟨⟨e2, e3⟩, f2, f3⟩ := Below.two HB2.out z1 e0 e1 f0 f1; clear hb2 e0 e1 f0 f1)
  refine bodyPost_ret (v := .tuple #[.agg #[.int .i64 (x + dX k), .int .i64 (y + dY k)], .bool true]) (by simp [results, Tryd.results57, go_sem, e2, e3]) rfl ⟨rfl, ?_⟩
  exact set2 (bt HB.out HB2.out) (by simp) (by simp)
end Go.Proofs.YtekpamilcpeanaaDoor
