/-
  phalanxref04.Same: maps that read the same.
-/
import Derived.Test.YtobjadfchpgjeaaMk
import Derived.Lib.Bytes
set_option linter.unusedSimpArgs false
namespace Go.Proofs.Ytobjadfchpgjeaa
open Go.RowKit
set_option linter.unusedVariables false
def intsN (l : List Nat) : List Int := l.map fun d => ((d : Nat) : Int)
theorem run_str (w : World) (v : Value) (l : List Nat) (h : TlR w v l) : (convert 22 9 v).run Try.prog w = .ok (.string (strOfNums (intsN l))) w := by
  obtain ⟨a, cap, rfl, hc, hm, ha, hr⟩ := h
  by_cases hne : l = []
  · subst hne
    have e : strOfNums (intsN []) = ByteArray.empty := rfl
    rw [e]
    cases a with
    | none => exact run_convert_bytes_nil w 22 5 Try.underlying22 Try.underlying5 _ _ 9 Try.underlying9
    | some ad =>
      have hl0 : (loadCells ad 0).run Try.prog w = .ok (([] : List Int).map (Value.int .u8)).toArray w := by
        simpa using run_loadCells_list (P := Try.prog) w ad [] (fun j v hj => by simp at hj)
      rw [run_convert_bytes_string w 22 9 5 _ _ _ Try.underlying22 Try.underlying5 Try.underlying9]
      exact run_bytesToString w ad 0 cap [] hl0
  · have hl0 : 0 < l.length := by
      rcases l with _ | ⟨x, r⟩
      · exact absurd rfl hne
      · simp
    obtain ⟨b, o, rfl, -, -⟩ := hr 0 _ (List.getElem?_eq_getElem hl0)
    refine run_convert_bytes_arg w 22 5 Try.underlying22 Try.underlying5 b o l.length cap (intsN l) (by simp [intsN]) (fun i hi => ?_) 9 Try.underlying9
    have hi' : i < l.length := by simpa [intsN] using hi
    obtain ⟨b', o', e1, -, e3⟩ := hr i _ (List.getElem?_eq_getElem hi')
    cases e1
    have hg : (intsN l).getD i 0 = ((l[i] : Nat) : Int) := by simp [intsN, List.getD_eq_getElem?_getD, hi']
    rw [hg]
    exact e3
theorem MB.new2 (w : World) (W H W' H' : Int) (tv bv tv' bv' : Value) : MB ((w.alloc (.cells #[.int .i64 W, .int .i64 H, tv, bv] 25)).alloc (.cells #[.int .i64 W', .int .i64 H', tv', bv'] 25)) w.heap.size W H tv bv ∧ MB ((w.alloc (.cells #[.int .i64 W, .int .i64 H, tv, bv] 25)).alloc (.cells #[.int .i64 W', .int .i64 H', tv', bv'] 25)) (w.heap.size + 1) W' H' tv' bv' := by
  refine ⟨(Below.heap_alloc _ _ _ (by simp)).trans (heap_alloc_new w _), ?_⟩
  have := heap_alloc_new (w.alloc (.cells #[.int .i64 W, .int .i64 H, tv, bv] 25)) (.cells #[.int .i64 W', .int .i64 H', tv', bv'] 25)
  simpa [MB] using this
set_option maxRecDepth 100000 in
set_option maxHeartbeats 4000000 in
theorem same_yes (W H : Int) (tv bv tv' bv' : Value) (tl : List Nat) (L : List Bd) (w : World) (hv : TlR w tv tl) (hv' : TlR w tv' tl) (hl : BdR w bv L) (hl' : BdR w bv' L) :
    Calls Try.prog 27 #[mp W H tv bv, mp W H tv' bv'] w fun e w' => e = .returned (.bool true) ∧ Below w.heap.size w w' := by
  have B0 := box2 w (.cells #[.int .i64 W, .int .i64 H, tv, bv] 25) (.cells #[.int .i64 W, .int .i64 H, tv', bv'] 25)
  obtain ⟨M0, N0⟩ := MB.new2 w W H W H tv bv tv' bv'
  obtain ⟨X, hX⟩ : ∃ X, (w.alloc (.cells #[.int .i64 W, .int .i64 H, tv, bv] 25)).alloc (.cells #[.int .i64 W, .int .i64 H, tv', bv'] 25) = X := ⟨_, rfl⟩
  rw [hX] at B0 M0 N0
  have k1 := run_str X tv tl (hv.kept B0)
  have k2 := run_str X tv' tl (hv'.kept B0)
  have hb := hl.kept B0
  have hb' := hl'.kept B0
  obtain ⟨a1, cap1, rfl, -⟩ := hv
  obtain ⟨a2, cap2, rfl, -⟩ := hv'
  obtain ⟨b1, dap1, rfl, g1, g2, -, g4⟩ := hb
  obtain ⟨b2, dap2, rfl, j1, j2, -, j4⟩ := hb'
  have kl : (0 : Int) ≤ (L.length : Nat) ∧ ((L.length : Nat) : Int) ≤ 9223372036854775807 := by unfold maxLen at *; omega
  have G4 := hide g4
  have J4 := hide j4
  have key1 : ∀ n : Lat X, n.w.cell? ⟨w.heap.size, 3, none⟩ = some (.slice b1 L.length dap1) := fun n => (M0.kept n.h).c.2.2.2
  have key2 : ∀ n : Lat X, n.w.cell? ⟨w.heap.size + 1, 3, none⟩ = some (.slice b2 L.length dap2) := fun n => (N0.kept n.h).c.2.2.2
  generalize strOfNums (intsN tl) = s1 at *
  clear hl hl' g4 j4
  obtain ⟨m0, m1, m2, m3⟩ := M0.c
  obtain ⟨n0, n1, n2, n3⟩ := N0.c
  go_enter Try.func27, Try.ntmps27
  go_wp2_with fail
  go_loopw [5] (fun s5 wr => ∃ k : Nat, k ≤ L.length ∧ s5 = .int .i64 k ∧ ∃ m : Lat X, wr = m.w) (fun s5 _ => L.length - (intOf s5).toNat)
  case atStart => exact ⟨0, Nat.zero_le _, rfl, ⟨X, Below.refl _ _⟩, by first | rfl | exact hX.symm | exact hX⟩
  case round =>
    obtain ⟨k, hk, rfl, m, rfl⟩ := hrel
    have r1 := key1 m
    have r2 := key2 m
    clear m0 m1 m2 m3 n0 n1 n2 n3 hX k1 k2
    by_cases hlt : k < L.length
    · obtain ⟨t, ht⟩ : ∃ t, L[k]? = some t := ⟨_, List.getElem?_eq_getElem hlt⟩
      have q1 := fun n : Lat m.w => (G4.out k t ht).kept (bt m.h n.h)
      have q2 := fun n : Lat m.w => (J4.out k t ht).kept (bt m.h n.h)
      obtain ⟨g, o, rfl, -⟩ := G4.out k t ht
      obtain ⟨g', o', rfl, -⟩ := J4.out k t ht
      have y3 : ∀ n : Lat m.w, n.w.cell? ⟨w.heap.size, 3, none⟩ = some (.slice (some ⟨g, o, none⟩) L.length dap1) := fun n => key1 ⟨n.w, bt m.h n.h⟩
      have z3 : ∀ n : Lat m.w, n.w.cell? ⟨w.heap.size + 1, 3, none⟩ = some (.slice (some ⟨g', o', none⟩) L.length dap2) := fun n => key2 ⟨n.w, bt m.h n.h⟩
      have Q1 : ∀ n : Lat m.w, n.w.cell? ⟨g, o + k * 5, none⟩ = some (.int .i64 t.id) ∧ n.w.cell? ⟨g, o + k * 5 + 1, none⟩ = some (.int .i64 t.x) ∧ n.w.cell? ⟨g, o + k * 5 + 2, none⟩ = some (.int .i64 t.y) ∧ n.w.cell? ⟨g, o + k * 5 + 3, none⟩ = some (.int .i64 t.a) ∧ n.w.cell? ⟨g, o + k * 5 + 4, none⟩ = some (.int .i64 t.b) := fun n => by
        obtain ⟨g0, o0, e, -, h⟩ := q1 n
        cases e
        exact h
      have Q2 : ∀ n : Lat m.w, n.w.cell? ⟨g', o' + k * 5, none⟩ = some (.int .i64 t.id) ∧ n.w.cell? ⟨g', o' + k * 5 + 1, none⟩ = some (.int .i64 t.x) ∧ n.w.cell? ⟨g', o' + k * 5 + 2, none⟩ = some (.int .i64 t.y) ∧ n.w.cell? ⟨g', o' + k * 5 + 3, none⟩ = some (.int .i64 t.a) ∧ n.w.cell? ⟨g', o' + k * 5 + 4, none⟩ = some (.int .i64 t.b) := fun n => by
        obtain ⟨g0, o0, e, -, h⟩ := q2 n
        cases e
        exact h
      have i0 := fun n : Lat m.w => (Q1 n).1
      have i1 := fun n : Lat m.w => (Q1 n).2.1
      have i2 := fun n : Lat m.w => (Q1 n).2.2.1
      have i3 := fun n : Lat m.w => (Q1 n).2.2.2.1
      have i4 := fun n : Lat m.w => (Q1 n).2.2.2.2
      have l0 := fun n : Lat m.w => (Q2 n).1
      have l1 := fun n : Lat m.w => (Q2 n).2.1
      have l2 := fun n : Lat m.w => (Q2 n).2.2.1
      have l3 := fun n : Lat m.w => (Q2 n).2.2.2.1
      have l4 := fun n : Lat m.w => (Q2 n).2.2.2.2
      have hki : (k : Int) < (L.length : Nat) := by omega
      have hnm := lat_some m.w
      clear Q1 Q2 q1 q2 key1 key2
      go_wp2_with fail
      refine wp_region_lat (by kernel_rfl) (by kernel_rfl) ?_
      repeat (go_big_quiet_step (fail))
      refine wpQuiet_nil ?_
      rintro _ ⟨n, rfl⟩
      go_wp2_with fail
      go_roundw
      case rel => exact ⟨k + 1, by omega, by go_num, ⟨n.w, bt m.h n.h⟩, rfl⟩
      case measure => simp [intOf]; omega
    · have hki : ¬ (k : Int) < (L.length : Nat) := by omega
      go_wp2_with fail
      go_ret
      exact ⟨rfl, bt B0 m.h⟩
end Go.Proofs.Ytobjadfchpgjeaa
