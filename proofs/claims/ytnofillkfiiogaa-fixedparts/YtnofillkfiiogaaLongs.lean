/-
  The reference's Of, one, negated, To and Sum: whole numbers of any length as a sign and digits.
-/
import Derived.Test.YtnofillkfiiogaaPlus
namespace Go.Proofs.Ytnofillkfiiogaa
open Go.RowKit
set_option linter.unusedVariables false
set_option maxHeartbeats 400000 in
theorem of_pos (a : Int) (w : World) (ha : 0 ≤ a ∧ a ≤ 9223372036854775807) :
    Calls Try.prog 38 #[.int .i64 a] w fun e w' => ∃ v l, e = .returned (.agg #[.bool false, v]) ∧ Digs w' v l ∧ (val l : Int) = a ∧ l.length ≤ 3 ∧ Below w.heap.size w w' := by
  obtain ⟨n, rfl⟩ := Int.eq_ofNat_of_zero_le ha.1
  go_enter Try.func38, Try.ntmps38
  go_wp2_with fail
  refine bodyPost_ret (v := .agg #[.bool false, .slice (some ⟨w.heap.size + 1, 0, none⟩) 2 2]) (by simp [results, Try.results38, go_sem]) rfl ⟨_, [n % 4294967296, n / 4294967296], rfl, ?_, ?_, by simp, ((Below.refl _ _).alloc (Nat.le_refl _) _).alloc (by simp) _⟩
  · have h := digs_two (w.alloc (Obj.cells #[Value.bool false, Value.slice (some ⟨w.heap.size + 1, 0, none⟩) 2 2] 34)) (n % 4294967296) (n / 4294967296) (by omega) (by omega)
    simpa using h
  · rw [val_two]; omega
set_option maxHeartbeats 400000 in
theorem of_neg (a : Int) (w : World) (ha : -9223372036854775808 ≤ a ∧ a < 0) :
    Calls Try.prog 38 #[.int .i64 a] w fun e w' => ∃ v l, e = .returned (.agg #[.bool true, v]) ∧ Digs w' v l ∧ (val l : Int) = -a ∧ l.length ≤ 3 ∧ Below w.heap.size w w' := by
  obtain ⟨n, hn⟩ := Int.eq_ofNat_of_zero_le (a := -(a + 1)) (by omega)
  have hn2 : a = -(n : Int) - 1 := by omega
  subst hn2
  clear hn
  go_enter Try.func38, Try.ntmps38
  go_wp2_with fail
  have hd1 := (digs_two (w.alloc (Obj.cells #[Value.bool false, Value.slice none 0 0] 34)) (n % 4294967296) (n / 4294967296) (by omega) (by omega)).kept ((Below.refl _ _).alloc (Nat.le_refl _) (Obj.cells #[Value.int IntKind.u64 1] 38))
  have hd2 := digs_one ((w.alloc (Obj.cells #[Value.bool false, Value.slice none 0 0] 34)).alloc (Obj.cells #[Value.int IntKind.u64 (((n % 4294967296 : Nat) : Int)), Value.int IntKind.u64 (((n / 4294967296 : Nat) : Int))] 38)) 1 (by omega)
  have e1 : (((n % 4294967296 : Nat) : Int)) = (n : Int) % 4294967296 := by omega
  have e2 : (((n / 4294967296 : Nat) : Int)) = (n : Int) / 4294967296 := by omega
  rw [e1, e2] at hd1 hd2
  simp only [World.size_alloc] at hd1 hd2
  refine (plus_sl _ _ _ _ _ hd1 hd2 (by simp) (by simp)).mono ?_
  rintro e w1 ⟨av, nv, cv, l, rfl, hd, hfr, hv, hl, hb⟩
  clear hd1 hd2 e1 e2
  have c0 : w1.cell? ⟨w.heap.size, 0, none⟩ = some (.bool false) := by rw [hb.cell (p := ⟨w.heap.size, 0, none⟩) (by simp; omega)]; go_simp
  have c1 : w1.cell? ⟨w.heap.size, 1, none⟩ = some (.slice none 0 0) := by rw [hb.cell (p := ⟨w.heap.size, 1, none⟩) (by simp; omega)]; go_simp
  have f0 : w1.frozen? ⟨w.heap.size, 0, none⟩ = false := by rw [hb.frozen (p := ⟨w.heap.size, 0, none⟩) (by simp; omega)]; go_simp
  have f1 : w1.frozen? ⟨w.heap.size, 1, none⟩ = false := by rw [hb.frozen (p := ⟨w.heap.size, 1, none⟩) (by simp; omega)]; go_simp
  have hz : w.heap.size < w1.heap.size := by have := hb.size; simp at this; omega
  have Hfr := hide hfr
  clear hfr
  go_wp2_with fail
  refine bodyPost_ret (v := .agg #[.bool true, .slice av nv cv]) (by simp [results, Try.results38, go_sem, c0, c1]) rfl ⟨_, l, rfl, ?_, ?_, ?_, ?_⟩
  · have hne : (Value.slice av nv cv).ownBlock ≠ some w.heap.size := by
      intro e; have := Hfr.out _ e; simp at this; omega
    exact (hd.stored (a := ⟨w.heap.size, 0, none⟩) hne _).stored (a := ⟨w.heap.size, 1, none⟩) hne _
  · rw [hv, val_two, val_one]; omega
  · simpa using hl
  · exact (((((Below.refl _ _).alloc (Nat.le_refl _) _).alloc (by simp) _).alloc (by simp <;> omega) _).trans (hb.mono (by simp <;> omega))).setCell (by simp) _ |>.setCell (by simp) _
end Go.Proofs.Ytnofillkfiiogaa
