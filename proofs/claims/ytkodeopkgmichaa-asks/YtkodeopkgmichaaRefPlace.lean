/-
  The document's place and anybody.
-/
import Derived.Test.YtkodeopkgmichaaRefFree
namespace Go.Proofs.Ytkodeopkgmichaa
open Go.RowKit Go.Shelf
set_option linter.unusedVariables false
set_option linter.unusedSimpArgs false
set_option maxRecDepth 100000 in
set_option maxHeartbeats 4000000 in
theorem place_any (r : Nat) (av : Option Addr) (cap : Nat) (l : List Bd) (i : Int) (w : World) (h : RxR w r av cap l) :
    Calls Try.prog 29 #[ptr r, .int .i64 i] w fun e w' => ∃ z : Int, e = .returned (.int .i64 z) ∧ w' = w ∧ ((z = -1 ∧ gOf l i = none) ∨ ∃ (k : Nat) (t : Bd), z = (k : Nat) ∧ l[k]? = some t ∧ t.id = i) := by
  have z0 := h.1
  have hln : l.length ≤ 256 := h.2.2.1
  have HK := hide h.2.2.2
  clear h
  go_enter Try.func29, Try.ntmps29
  go_wp2_with fail
  go_loopw [5] (fun d wr => ∃ k : Nat, k ≤ l.length ∧ d = .int .i64 k ∧ (∀ (j : Nat) s, l[j]? = some s → j < k → s.id ≠ i) ∧ wr = w) (fun d _ => l.length - (intOf d).toNat)
  case atStart => exact ⟨0, Nat.zero_le _, rfl, fun j s _ hj => by omega, rfl⟩
  case round =>
    obtain ⟨k, hk, rfl, hno, rfl⟩ := hrel
    by_cases hlt : k < l.length
    · obtain ⟨t, ht⟩ : ∃ t, l[k]? = some t := ⟨_, List.getElem?_eq_getElem hlt⟩
      obtain ⟨g, o, rfl, hg, d0, -, -, -, -⟩ := HK.out k t ht
      have hki : (k : Int) < (l.length : Nat) := by omega
      have hkl : (0 : Int) ≤ (k : Nat) ∧ ((l.length : Nat) : Int) ≤ 256 := by omega
      have HT := hide ht
      have HN := hide hno
      clear ht hno
      by_cases hid : t.id = i
      · have hd : decide (t.id = i) = true := by simpa using hid
        have hd2 : (t.id == i) = true := by simpa using hid
        go_wp2_with fail
        go_ret
        exact ⟨_, rfl, rfl, .inr ⟨k, t, rfl, HT.out, hid⟩⟩
      · have hd : decide (t.id = i) = false := by simpa using hid
        have hd2 : (t.id == i) = false := by simpa using hid
        go_wp2_with fail
        go_roundw
        case rel =>
          refine ⟨k + 1, by omega, by go_num, fun j s' hj hjk => ?_, by first | rfl | trivial⟩
          by_cases hjk' : j = k
          · subst hjk'; rw [HT.out] at hj; cases hj; exact hid
          · exact HN.out j s' hj (by omega)
        case measure => simp [intOf]; omega
    · obtain rfl : k = l.length := by omega
      have HA : Hid (gOf l i = none) := hide (gOf_none.2 (fun s hs => by
        obtain ⟨j, hj, rfl⟩ := List.getElem_of_mem hs
        exact hno j l[j] (List.getElem?_eq_getElem hj) hj))
      have hki : ¬ ((l.length : Nat) : Int) < (l.length : Nat) := by omega
      clear hno
      go_wp2_with fail
      go_ret
      exact ⟨_, rfl, rfl, .inl ⟨rfl, HA.out⟩⟩
def anyR (l : List Bd) (x y a b : Int) : Bool := l.any (fun t => mtB t.r.x t.r.y t.r.a t.r.b x y a b)
set_option maxRecDepth 100000 in
set_option maxHeartbeats 4000000 in
theorem anybody_any (r : Nat) (av : Option Addr) (cap : Nat) (l : List Bd) (x y a b : Int) (w : World) (h : RxR w r av cap l) :
    Calls Try.prog 41 #[ptr r, rct x y a b] w fun e w' => e = .returned (.bool (anyR l x y a b)) ∧ Below w.heap.size w w' := by
  obtain ⟨X, hX⟩ : ∃ X, w.alloc (.cells #[.int .i64 x, .int .i64 y, .int .i64 a, .int .i64 b] 34) = X := ⟨_, rfl⟩
  have B0 : Below w.heap.size w X := hX ▸ box1 _ _
  have F0 : Four X w.heap.size x y a b := hX ▸ cells4 (Below.refl _ _)
  have key : ∀ n : Lat X, RxR n.w r av cap l ∧ Four n.w w.heap.size x y a b ∧ Below w.heap.size w n.w := fun n =>
    ⟨h.kept (bt B0 n.h), F0.turned (S := NoB) (Turns.of_below n.h) id, bt B0 n.h⟩
  have HK := hide key
  have hln : l.length ≤ 256 := h.2.2.1
  go_enter Try.func41, Try.ntmps41
  go_wp2_with (rw [hX])
  clear h F0 B0 hX key
  go_loopw [5] (fun d wr => ∃ k : Nat, k ≤ l.length ∧ d = .int .i64 k ∧ (∀ (j : Nat) s, l[j]? = some s → j < k → mtB s.r.x s.r.y s.r.a s.r.b x y a b = false) ∧ ∃ n : Lat X, wr = n.w) (fun d _ => l.length - (intOf d).toNat)
  case atStart => exact ⟨0, Nat.zero_le _, rfl, fun j s _ hj => by omega, ⟨X, Below.refl _ _⟩, by first | rfl | assumption⟩
  case round =>
    obtain ⟨k, hk, rfl, hno, n0, rfl⟩ := hrel
    have z0 := (HK.out n0).1.1
    by_cases hlt : k < l.length
    · obtain ⟨t, ht⟩ : ∃ t, l[k]? = some t := ⟨_, List.getElem?_eq_getElem hlt⟩
      obtain ⟨g, o, rfl, hg, d0, d1, d2, d3, d4⟩ := (HK.out n0).1.2.2.2 k t ht
      have e1 : ∀ n : Lat n0.w, n.w.cell? ⟨g, o + k * 5 + 1, none⟩ = some (.int .i64 t.r.x) := fun n => (n.h.cell (p := ⟨g, o + k * 5 + 1, none⟩) hg).trans d1
      have e2 : ∀ n : Lat n0.w, n.w.cell? ⟨g, o + k * 5 + 2, none⟩ = some (.int .i64 t.r.y) := fun n => (n.h.cell (p := ⟨g, o + k * 5 + 2, none⟩) hg).trans d2
      have e3 : ∀ n : Lat n0.w, n.w.cell? ⟨g, o + k * 5 + 3, none⟩ = some (.int .i64 t.r.a) := fun n => (n.h.cell (p := ⟨g, o + k * 5 + 3, none⟩) hg).trans d3
      have e4 : ∀ n : Lat n0.w, n.w.cell? ⟨g, o + k * 5 + 4, none⟩ = some (.int .i64 t.r.b) := fun n => (n.h.cell (p := ⟨g, o + k * 5 + 4, none⟩) hg).trans d4
      have q0 : ∀ n : Lat n0.w, n.w.cell? ⟨w.heap.size, 0, none⟩ = some (.int .i64 x) := fun n => (HK.out ⟨n.w, bt n0.h n.h⟩).2.1.1.1
      have q1 : ∀ n : Lat n0.w, n.w.cell? ⟨w.heap.size, 1, none⟩ = some (.int .i64 y) := fun n => (HK.out ⟨n.w, bt n0.h n.h⟩).2.1.1.2.1
      have q2 : ∀ n : Lat n0.w, n.w.cell? ⟨w.heap.size, 2, none⟩ = some (.int .i64 a) := fun n => (HK.out ⟨n.w, bt n0.h n.h⟩).2.1.1.2.2.1
      have q3 : ∀ n : Lat n0.w, n.w.cell? ⟨w.heap.size, 3, none⟩ = some (.int .i64 b) := fun n => (HK.out ⟨n.w, bt n0.h n.h⟩).2.1.1.2.2.2
      have q8 : ∀ n : Lat n0.w, n.w.cell? ⟨r, 0, none⟩ = some (.slice (some ⟨g, o, none⟩) l.length cap) := fun n => (HK.out ⟨n.w, bt n0.h n.h⟩).1.1
      have hki : (k : Int) < (l.length : Nat) := by omega
      have hkl : (0 : Int) ≤ (k : Nat) ∧ ((l.length : Nat) : Int) ≤ 256 := by omega
      have hne2 := lat_some n0.w
      have HT := hide ht
      have HN := hide hno
      clear d0 d1 d2 d3 d4 ht hno
      cases hb : mtB t.r.x t.r.y t.r.a t.r.b x y a b
      · have HB := hide hb
        clear hb
        go_wp2_with fail
        refine wp_region_lat (by kernel_rfl) (by kernel_rfl) ?_
        repeat (go_big_quiet_step (first | (go_at_call 34; exact calls_lat (meet34_is HB.out))))
        refine wpQuiet_nil ?_
        rintro _ ⟨n2, rfl⟩
        go_wp2_with fail
        go_roundw
        case rel =>
          refine ⟨k + 1, by omega, by go_num, fun j s' hj hjk => ?_, ⟨n2.w, bt n0.h n2.h⟩, rfl⟩
          by_cases hjk' : j = k
          · subst hjk'; rw [HT.out] at hj; cases hj; exact HB.out
          · exact HN.out j s' hj (by omega)
        case measure => simp [intOf]; omega
      · have HA : Hid (anyR l x y a b = true) := hide (List.any_eq_true.2 ⟨t, List.mem_of_getElem? HT.out, hb⟩)
        have HB := hide hb
        clear hb
        go_wp2_with fail
        refine wp_region_lat (by kernel_rfl) (by kernel_rfl) ?_
        repeat (go_big_quiet_step (first | (go_at_call 34; exact calls_lat (meet34_is HB.out))))
        refine wpQuiet_nil ?_
        rintro _ ⟨n2, rfl⟩
        go_wp2_with fail
        go_ret
        exact ⟨ret_bool (by rw [HA.out]), (HK.out ⟨n2.w, bt n0.h n2.h⟩).2.2⟩
    · obtain rfl : k = l.length := by omega
      have HA : Hid (anyR l x y a b = false) := hide (by
        unfold anyR
        rw [List.any_eq_false]
        intro s hs
        obtain ⟨j, hj, rfl⟩ := List.getElem_of_mem hs
        simp [hno j l[j] (List.getElem?_eq_getElem hj) hj])
      have hki : ¬ ((l.length : Nat) : Int) < (l.length : Nat) := by omega
      clear hno
      go_wp2_with fail
      go_ret
      exact ⟨ret_bool (by rw [HA.out]), (HK.out n0).2.2⟩
end Go.Proofs.Ytkodeopkgmichaa
