/-
  phalanxlaw04.own: a map in memory of its own.
-/
import Derived.Test.YtobjadfchpgjeaaRefNew
set_option linter.unusedSimpArgs false
namespace Go.Proofs.Ytobjadfchpgjeaa
open Go.RowKit
set_option linter.unusedVariables false
theorem turns_set4' (w : World) (n : Nat) (a b c d : Value) : Turns (fun j => j = n) w ((((w.setCell ⟨n, 0, none⟩ a).setCell ⟨n, 1, none⟩ b).setCell ⟨n, 2, none⟩ c).setCell ⟨n, 3, none⟩ d) :=
  (((Turns.set (S := fun j => j = n) w (p := ⟨n, 0, none⟩) rfl a).trans ((Turns.set (S := fun j => j = n) _ (p := ⟨n, 1, none⟩) rfl b).mono (fun _ _ h => .inl h))).trans ((Turns.set (S := fun j => j = n) _ (p := ⟨n, 2, none⟩) rfl c).mono (fun _ _ h => .inl h))).trans ((Turns.set (S := fun j => j = n) _ (p := ⟨n, 3, none⟩) rfl d).mono (fun _ _ h => .inl h))
set_option maxRecDepth 100000 in
set_option maxHeartbeats 4000000 in
theorem own_any (W H : Int) (tv bv : Value) (tl : List Nat) (L : List Bd) (w : World) (hv : TlR w tv tl) (hl : BdR w bv L) (ht : tl.length ≤ 140737488355328) (hL : L.length * 40 ≤ 140737488355328) :
    Calls Try.prog 31 #[mp W H tv bv] w fun e w' => ∃ tv' bv', e = .returned (mp W H tv' bv') ∧ Tls w' tv' tl ∧ Bds w' bv' L ∧ Below w.heap.size w w' := by
  have B0 := box2 w (.cells #[.int .i64 W, .int .i64 H, tv, bv] 25) (.cells #[.int .i64 0, .int .i64 0, .slice none 0 0, .slice none 0 0] 25)
  have M0 : ((w.alloc (.cells #[.int .i64 W, .int .i64 H, tv, bv] 25)).alloc (.cells #[.int .i64 0, .int .i64 0, .slice none 0 0, .slice none 0 0] 25)).heap[w.heap.size]? = some (.cells #[.int .i64 W, .int .i64 H, tv, bv] 25 (0, 0)) := (Below.heap_alloc _ _ _ (by simp)).trans (heap_alloc_new w _)
  have R0 : ((w.alloc (.cells #[.int .i64 W, .int .i64 H, tv, bv] 25)).alloc (.cells #[.int .i64 0, .int .i64 0, .slice none 0 0, .slice none 0 0] 25)).heap[w.heap.size + 1]? = some (.cells #[.int .i64 0, .int .i64 0, .slice none 0 0, .slice none 0 0] 25 (0, 0)) := by
    have := heap_alloc_new (w.alloc (.cells #[.int .i64 W, .int .i64 H, tv, bv] 25)) (.cells #[.int .i64 0, .int .i64 0, .slice none 0 0, .slice none 0 0] 25)
    simpa using this
  have z0 : ((w.alloc (.cells #[.int .i64 W, .int .i64 H, tv, bv] 25)).alloc (.cells #[.int .i64 0, .int .i64 0, .slice none 0 0, .slice none 0 0] 25)).heap.size = w.heap.size + 2 := by simp
  obtain ⟨X, hX⟩ : ∃ X, (w.alloc (.cells #[.int .i64 W, .int .i64 H, tv, bv] 25)).alloc (.cells #[.int .i64 0, .int .i64 0, .slice none 0 0, .slice none 0 0] 25) = X := ⟨_, rfl⟩
  rw [hX] at B0 M0 R0 z0
  have hvX := hv.kept B0
  have hlX := hl.kept B0
  have hvc := hv
  have hlc := hl
  obtain ⟨a1, cap1, rfl, -, -, h01, -⟩ := hvc
  obtain ⟨a2, cap2, rfl, -, -, h02, -⟩ := hlc
  obtain ⟨f5, hf5, hz5, hs5, hb5⟩ := info_parts info5
  obtain ⟨f92, hf92, hz92, hs92, hb92⟩ := info_parts info55
  obtain ⟨a3, cap3, w3, hrun3, hown3, hB3, hfr3⟩ := append_row X 22 22 5 f5 (.int .u8 0) 1 1 Try.underlying22 hf5 hz5 hs5 hb5 rfl (by decide) (append_nil33 _ _) a1 cap1 tl.length _ (by simp) h01 (hvX.cellsAt) one_tl (by unfold maxLen; omega) (by omega)
  have M3 := (hB3.block w.heap.size (by omega)).trans M0
  have R3 := (hB3.block (w.heap.size + 1) (by omega)).trans R0
  have x0 : X.cell? ⟨w.heap.size, 2, none⟩ = some (.slice a1 tl.length cap1) := cell_of_row X _ 2 _ _ _ M0
  have x3 : w3.cell? ⟨w.heap.size, 2, none⟩ = some (.slice a1 tl.length cap1) := cell_of_row w3 _ 2 _ _ _ M3
  have f3 : w3.frozen? ⟨w.heap.size, 2, none⟩ = false := by simp [World.frozen?, M3]
  obtain ⟨w4, hw4⟩ : ∃ w4, w3.setCell ⟨w.heap.size, 2, none⟩ (.slice a3 tl.length cap3) = w4 := ⟨_, rfl⟩
  have M4 : w4.heap[w.heap.size]? = some (.cells #[.int .i64 W, .int .i64 H, .slice a3 tl.length cap3, .slice a2 L.length cap2] 25 (0, 0)) := by
    rw [← hw4]; simp [World.setCell, Array.getElem?_modify, M3]
  have R4 : w4.heap[w.heap.size + 1]? = some (.cells #[.int .i64 0, .int .i64 0, .slice none 0 0, .slice none 0 0] 25 (0, 0)) := by
    rw [← hw4]; exact (Below.heap_setCell _ _ _ _ (by simp)).trans R3
  have B4 : Below w.heap.size w w4 := by rw [← hw4]; exact (bt B0 hB3).setCell (p := ⟨w.heap.size, 2, none⟩) (by simp) _
  have TS4 : Turns (fun j => j = w.heap.size) w3 w4 := by rw [← hw4]; exact Turns.set (S := fun j => j = w.heap.size) w3 (p := ⟨w.heap.size, 2, none⟩) rfl _
  have z3 := hB3.size
  have z4 : w3.heap.size = w4.heap.size := by rw [← hw4]; simp [World.setCell]
  have T4 : Tls w4 (.slice a3 tl.length cap3) tl := Tls.kept (show Tls w3 (.slice a3 tl.length cap3) tl from hown3) TS4 (fun k e h => by have := hfr3 k e; omega)
  have hl4 := hl.kept B4
  obtain ⟨a5, cap5, w5, hrun5, hown5, hB5, hfr5⟩ := append_row w4 23 23 55 f92 z55 5 40 Try.underlying23 hf92 hz92 hs92 hb92 rfl (by decide) (append_nil34 _ _) a2 cap2 L.length _ (cs_len L) h02 (hl4.cellsAt) one_all (by unfold maxLen; omega) hL
  have M5 := (hB5.block w.heap.size (by omega)).trans M4
  have R5 := (hB5.block (w.heap.size + 1) (by omega)).trans R4
  have T5 := T4.kept (Turns.of_below (S := NoB) hB5) (fun _ _ => id)
  have x4 : w4.cell? ⟨w.heap.size, 3, none⟩ = some (.slice a2 L.length cap2) := cell_of_row w4 _ 3 _ _ _ M4
  have x5 : w5.cell? ⟨w.heap.size, 3, none⟩ = some (.slice a2 L.length cap2) := cell_of_row w5 _ 3 _ _ _ M5
  have f5' : w5.frozen? ⟨w.heap.size, 3, none⟩ = false := by simp [World.frozen?, M5]
  obtain ⟨w6, hw6⟩ : ∃ w6, w5.setCell ⟨w.heap.size, 3, none⟩ (.slice a5 L.length cap5) = w6 := ⟨_, rfl⟩
  have M6 : w6.heap[w.heap.size]? = some (.cells #[.int .i64 W, .int .i64 H, .slice a3 tl.length cap3, .slice a5 L.length cap5] 25 (0, 0)) := by
    rw [← hw6]; simp [World.setCell, Array.getElem?_modify, M5]
  have R6 : w6.heap[w.heap.size + 1]? = some (.cells #[.int .i64 0, .int .i64 0, .slice none 0 0, .slice none 0 0] 25 (0, 0)) := by
    rw [← hw6]; exact (Below.heap_setCell _ _ _ _ (by simp)).trans R5
  have B6 : Below w.heap.size w w6 := by rw [← hw6]; exact (bt B4 hB5).setCell (p := ⟨w.heap.size, 3, none⟩) (by simp) _
  have TS6 : Turns (fun j => j = w.heap.size) w5 w6 := by rw [← hw6]; exact Turns.set (S := fun j => j = w.heap.size) w5 (p := ⟨w.heap.size, 3, none⟩) rfl _
  have T6 : Tls w6 (.slice a3 tl.length cap3) tl := T5.kept TS6 (fun k e h => by have := hfr3 k e; omega)
  have L6 : Bds w6 (.slice a5 L.length cap5) L := Bds.kept (show Bds w5 (.slice a5 L.length cap5) L from hown5) TS6 (fun k e h => by have := hfr5 k e; omega)
  have y0 : w6.cell? ⟨w.heap.size, 0, none⟩ = some (.int .i64 W) := cell_of_row w6 _ 0 _ _ _ M6
  have y1 : w6.cell? ⟨w.heap.size, 1, none⟩ = some (.int .i64 H) := cell_of_row w6 _ 1 _ _ _ M6
  have y2 : w6.cell? ⟨w.heap.size, 2, none⟩ = some (.slice a3 tl.length cap3) := cell_of_row w6 _ 2 _ _ _ M6
  have y3 : w6.cell? ⟨w.heap.size, 3, none⟩ = some (.slice a5 L.length cap5) := cell_of_row w6 _ 3 _ _ _ M6
  have r0 : w6.cell? ⟨w.heap.size + 1, 0, none⟩ = some (.int .i64 0) := cell_of_row w6 _ 0 _ _ _ R6
  have r1 : w6.cell? ⟨w.heap.size + 1, 1, none⟩ = some (.int .i64 0) := cell_of_row w6 _ 1 _ _ _ R6
  have r2 : w6.cell? ⟨w.heap.size + 1, 2, none⟩ = some (.slice none 0 0) := cell_of_row w6 _ 2 _ _ _ R6
  have r3 : w6.cell? ⟨w.heap.size + 1, 3, none⟩ = some (.slice none 0 0) := cell_of_row w6 _ 3 _ _ _ R6
  have q0 : w6.frozen? ⟨w.heap.size + 1, 0, none⟩ = false := by simp [World.frozen?, R6]
  have q1 : w6.frozen? ⟨w.heap.size + 1, 1, none⟩ = false := by simp [World.frozen?, R6]
  have q2 : w6.frozen? ⟨w.heap.size + 1, 2, none⟩ = false := by simp [World.frozen?, R6]
  have q3 : w6.frozen? ⟨w.heap.size + 1, 3, none⟩ = false := by simp [World.frozen?, R6]
  have HE : Hid (Tls ((((w6.setCell ⟨w.heap.size + 1, 0, none⟩ (.int .i64 W)).setCell ⟨w.heap.size + 1, 1, none⟩ (.int .i64 H)).setCell ⟨w.heap.size + 1, 2, none⟩ (.slice a3 tl.length cap3)).setCell ⟨w.heap.size + 1, 3, none⟩ (.slice a5 L.length cap5)) (.slice a3 tl.length cap3) tl ∧
      Bds ((((w6.setCell ⟨w.heap.size + 1, 0, none⟩ (.int .i64 W)).setCell ⟨w.heap.size + 1, 1, none⟩ (.int .i64 H)).setCell ⟨w.heap.size + 1, 2, none⟩ (.slice a3 tl.length cap3)).setCell ⟨w.heap.size + 1, 3, none⟩ (.slice a5 L.length cap5)) (.slice a5 L.length cap5) L ∧
      Below w.heap.size w ((((w6.setCell ⟨w.heap.size + 1, 0, none⟩ (.int .i64 W)).setCell ⟨w.heap.size + 1, 1, none⟩ (.int .i64 H)).setCell ⟨w.heap.size + 1, 2, none⟩ (.slice a3 tl.length cap3)).setCell ⟨w.heap.size + 1, 3, none⟩ (.slice a5 L.length cap5))) := by
    have TE : Turns (fun j => j = w.heap.size + 1) w6 ((((w6.setCell ⟨w.heap.size + 1, 0, none⟩ (.int .i64 W)).setCell ⟨w.heap.size + 1, 1, none⟩ (.int .i64 H)).setCell ⟨w.heap.size + 1, 2, none⟩ (.slice a3 tl.length cap3)).setCell ⟨w.heap.size + 1, 3, none⟩ (.slice a5 L.length cap5)) := turns_set4' _ _ _ _ _ _
    refine ⟨T6.kept TE (fun k e h => ?_), L6.kept TE (fun k e h => ?_), ?_⟩
    · have := hfr3 k e; omega
    · have := hfr5 k e; omega
    · exact (((B6.setCell (p := ⟨w.heap.size + 1, 0, none⟩) (by simp) _).setCell (p := ⟨w.heap.size + 1, 1, none⟩) (by simp) _).setCell (p := ⟨w.heap.size + 1, 2, none⟩) (by simp) _).setCell (p := ⟨w.heap.size + 1, 3, none⟩) (by simp) _
  clear M0 R0 M3 R3 M4 R4 M5 R5 M6 R6 T4 T5 T6 L6 hown3 hown5 hvX hlX hl4 hv hl TS4 TS6 hfr3 hfr5
  go_enter Try.func31, Try.ntmps31
  go_wp2_with (at_builtin; first | refine wpList_append_eq rfl _ _ 22 22 rfl rfl rfl hrun3 ?_ | refine wpList_append_eq rfl _ _ 23 23 rfl rfl rfl hrun5 ?_)
  refine bodyPost_ret (v := mp W H (.slice a3 tl.length cap3) (.slice a5 L.length cap5)) (by simp [results, Try.results31, go_sem, r0, r1, r2, r3]) rfl ?_
  exact ⟨_, _, rfl, HE.out⟩
end Go.Proofs.Ytobjadfchpgjeaa
