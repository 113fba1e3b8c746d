/-
  The document's May.
-/
import Derived.Test.YtobjadfchpgjeaaRefW
namespace Go.Proofs.Ytobjadfchpgjeaa
open Go.RowKit
set_option linter.unusedVariables false
/-- Whether a building's foot has a cell of one of the list. -/
def busyB (l : List Bd) (t : Bd) : Bool := l.any (fun s => mtB s.x s.y s.a s.b t.x t.y t.a t.b)
def refcode (W H : Int) (l : List Bd) (t : Bd) : Int :=
  if mb W H t = false then 1 else if found l t.id = true then 8 else if 256 ≤ l.length then 2 else if busyB l t = true then 6 else 0
theorem refmaybe_is {t : Bd} {W H : Int} {w : World} {c : Bool} (h : mb W H t = c) : Calls Try.prog 66 #[t.v, rct 0 0 W H] w fun e w' => e = .returned (.bool c) ∧ Below w.heap.size w w' := by subst h; exact refmaybe_any t W H w
theorem share_is {x y a b p q c d : Int} {w : World} {o : Bool} (h : mtB x y a b p q c d = o) : Calls Try.prog 67 #[rct x y a b, rct p q c d] w fun e w' => e = .returned (.bool o) ∧ Below w.heap.size w w' := by subst h; exact share_any x y a b p q c d w
theorem refplace_is {r : Nat} {W H : Int} {tv bv ev : Value} {l : List Bd} {i : Int} {w : World} {c : Bool} (hd : Rd w r W H tv bv ev) (hl : Bds w bv l) (hs : Sorted l) (hlen : l.length ≤ 256) (h : found l i = c) :
    Calls Try.prog 40 #[ptr r, .int .i64 i] w fun e w' => e = .returned (.int .i64 (if c = true then (pos l i : Nat) else -1)) ∧ w' = w := by subst h; exact refplace_any r W H tv bv ev l i w hd hl hs hlen
theorem busy_no {l : List Bd} {t : Bd} (h : ∀ (j : Nat) s, l[j]? = some s → j < l.length → mtB s.x s.y s.a s.b t.x t.y t.a t.b = false) : busyB l t = false := by
  unfold busyB
  rw [List.any_eq_false]
  intro s hs
  obtain ⟨j, hj, rfl⟩ := List.getElem_of_mem hs
  simp [h j l[j] (List.getElem?_eq_getElem hj) hj]
theorem busy_yes {l : List Bd} {t s : Bd} {j : Nat} (hs : l[j]? = some s) (h : mtB s.x s.y s.a s.b t.x t.y t.a t.b = true) : busyB l t = true := by
  unfold busyB
  rw [List.any_eq_true]
  exact ⟨s, List.mem_of_getElem? hs, h⟩
set_option maxRecDepth 100000 in
set_option maxHeartbeats 4000000 in
theorem refmayw_any (r : Nat) (W H : Int) (tv bv ev : Value) (l : List Bd) (t : Bd) (w : World) (hd : Rd w r W H tv bv ev) (hl : Bds w bv l) (hs : Sorted l) (hlen : l.length ≤ 256) :
    Calls Try.prog 49 #[ptr r, t.v] w fun e w' => e = .returned (.int .i64 (refcode W H l t)) ∧ Below w.heap.size w w' := by
  obtain ⟨X, hX⟩ : ∃ X, w.alloc (.cells #[.int .i64 t.id, .int .i64 t.x, .int .i64 t.y, .int .i64 t.a, .int .i64 t.b] 55) = X := ⟨_, rfl⟩
  have B0 : Below w.heap.size w X := hX ▸ box1 _ _
  have T0 : Turns NoB w X := Turns.of_below B0
  have F0 : Five X w.heap.size t := hX ▸ heap_alloc_new w _
  have key : ∀ n : Lat X, Rd n.w r W H tv bv ev ∧ Bds n.w bv l ∧ Five n.w w.heap.size t := fun n => by
    have T : Turns NoB X n.w := Turns.of_below n.h
    exact ⟨(hd.kept T0 id).kept T id, (hl.kept T0 (fun _ _ => id)).kept T (fun _ _ => id), F0.kept T id⟩
  have HK := hide key
  have c0 : ∀ n : Lat X, n.w.cell? ⟨w.heap.size, 0, none⟩ = some (.int .i64 t.id) := fun n => (key n).2.2.c 0
  have c1 : ∀ n : Lat X, n.w.cell? ⟨w.heap.size, 1, none⟩ = some (.int .i64 t.x) := fun n => (key n).2.2.c 1
  have c2 : ∀ n : Lat X, n.w.cell? ⟨w.heap.size, 2, none⟩ = some (.int .i64 t.y) := fun n => (key n).2.2.c 2
  have c3 : ∀ n : Lat X, n.w.cell? ⟨w.heap.size, 3, none⟩ = some (.int .i64 t.a) := fun n => (key n).2.2.c 3
  have c4 : ∀ n : Lat X, n.w.cell? ⟨w.heap.size, 4, none⟩ = some (.int .i64 t.b) := fun n => (key n).2.2.c 4
  obtain ⟨a, cap, rfl, hcap, hmax, -⟩ := hl.form
  have c8 : ∀ n : Lat X, n.w.cell? ⟨r, 3, none⟩ = some (.slice a l.length cap) := fun n => (key n).1.c 3
  have hlI : (0 : Int) ≤ (l.length : Nat) ∧ ((l.length : Nat) : Int) ≤ 256 := by omega
  clear key hd hl T0 F0
  have hne := lat_some X
  cases h1 : mb W H t
  · have H1 := hide h1
    rw [show refcode W H l t = 1 by simp [refcode, h1]]
    clear h1
    go_enter Try.func49, Try.ntmps49
    go_wp2_with fail
    clear hX
    refine wp_region_lat (by kernel_rfl) (by kernel_rfl) ?_
    repeat (go_big_quiet_step (first
      | (go_at_call 34; exact calls_lat (refall_any _ _ _ _ _ _ _ (HK.out _).1))
      | (go_at_call 66; exact calls_lat (refmaybe_is H1.out))))
    refine wpQuiet_nil ?_
    rintro _ ⟨n, rfl⟩
    go_wp2_with fail
    go_ret
    exact ⟨rfl, B0.trans (n.h.mono B0.size)⟩
  · have H1 := hide h1
    cases h2 : found l t.id
    · have H2 := hide h2
      by_cases h3 : 256 ≤ l.length
      · rw [show refcode W H l t = 2 by simp [refcode, h1, h2, h3]]
        have h3' : (256 : Int) ≤ (l.length : Nat) := by omega
        have HS := hide hs
        clear h1 h2 hs
        go_enter Try.func49, Try.ntmps49
        go_wp2_with fail
        clear hX
        refine wp_region_lat (by kernel_rfl) (by kernel_rfl) ?_
        repeat (go_big_quiet_step (first
          | (go_at_call 34; exact calls_lat (refall_any _ _ _ _ _ _ _ (HK.out _).1))
          | (go_at_call 66; exact calls_lat (refmaybe_is H1.out))))
        refine wpQuiet_nil ?_
        rintro _ ⟨n, rfl⟩
        have z0 := c0 n
        have z8 := c8 n
        go_wp2_with (go_at_call 40; refine (refplace_is (HK.out n).1 (HK.out n).2.1 HS.out hlen H2.out).mono ?_; rintro e w' ⟨rfl, rfl⟩)
        go_ret
        exact ⟨rfl, B0.trans (n.h.mono B0.size)⟩
      · obtain ⟨c, hc⟩ : ∃ c, refcode W H l t = c := ⟨_, rfl⟩
        have HC := hide (show c = if busyB l t = true then 6 else 0 by rw [← hc]; simp [refcode, h1, h2, h3])
        rw [hc]
        clear hc
        have h3' : ¬ (256 : Int) ≤ (l.length : Nat) := by omega
        have HS := hide hs
        clear h1 h2 hs
        go_enter Try.func49, Try.ntmps49
        go_wp2_with fail
        clear hX
        refine wp_region_lat (by kernel_rfl) (by kernel_rfl) ?_
        repeat (go_big_quiet_step (first
          | (go_at_call 34; exact calls_lat (refall_any _ _ _ _ _ _ _ (HK.out _).1))
          | (go_at_call 66; exact calls_lat (refmaybe_is H1.out))))
        refine wpQuiet_nil ?_
        rintro _ ⟨n, rfl⟩
        have z0 := c0 n
        have z8 := c8 n
        go_wp2_with (go_at_call 40; refine (refplace_is (HK.out n).1 (HK.out n).2.1 HS.out hlen H2.out).mono ?_; rintro e w' ⟨rfl, rfl⟩)
        go_loopw [5] (fun p wr => ∃ k : Nat, k ≤ l.length ∧ p = .int .i64 k ∧ (∀ (j : Nat) s, l[j]? = some s → j < k → mtB s.x s.y s.a s.b t.x t.y t.a t.b = false) ∧ ∃ m : Lat X, wr = m.w) (fun p _ => l.length - (intOf p).toNat)
        case atStart => exact ⟨0, Nat.zero_le _, rfl, fun j t _ h => absurd h (by omega), n, rfl⟩
        case round =>
          obtain ⟨k, hk, rfl, hno, m, rfl⟩ := hrel
          by_cases hlt : k < l.length
          · obtain ⟨s, hsk⟩ : ∃ s, l[k]? = some s := ⟨_, List.getElem?_eq_getElem hlt⟩
            obtain ⟨g, hga⟩ : ∃ g, a = some ⟨g, 0, none⟩ := by
              obtain ⟨a', cap', he', _, _, hform⟩ := (HK.out m).2.1.form
              obtain ⟨g', hgg, _⟩ := hform k s hsk
              injection he' with h1 h2 h3
              exact ⟨g', h1.trans hgg⟩
            subst hga
            have hcell : ∀ n : Lat X, n.w.cell? ⟨g, k * 5 + 1, none⟩ = some (.int .i64 s.x) ∧ n.w.cell? ⟨g, k * 5 + 2, none⟩ = some (.int .i64 s.y) ∧ n.w.cell? ⟨g, k * 5 + 3, none⟩ = some (.int .i64 s.a) ∧ n.w.cell? ⟨g, k * 5 + 4, none⟩ = some (.int .i64 s.b) := fun n => by
              obtain ⟨a', cap', he', _, _, hform⟩ := (HK.out n).2.1.form
              obtain ⟨g', hgg, _, _, q1, q2, q3, q4⟩ := hform k s hsk
              rw [hgg] at he'
              injection he' with h1 h2 h3
              injection h1 with h1
              injection h1 with h1
              subst h1
              exact ⟨q1, q2, q3, q4⟩
            have e1 : ∀ n : Lat m.w, n.w.cell? ⟨g, k * 5 + 1, none⟩ = some (.int .i64 s.x) := fun n => (hcell ⟨n.w, bt m.h n.h⟩).1
            have e2 : ∀ n : Lat m.w, n.w.cell? ⟨g, k * 5 + 2, none⟩ = some (.int .i64 s.y) := fun n => (hcell ⟨n.w, bt m.h n.h⟩).2.1
            have e3 : ∀ n : Lat m.w, n.w.cell? ⟨g, k * 5 + 3, none⟩ = some (.int .i64 s.a) := fun n => (hcell ⟨n.w, bt m.h n.h⟩).2.2.1
            have e4 : ∀ n : Lat m.w, n.w.cell? ⟨g, k * 5 + 4, none⟩ = some (.int .i64 s.b) := fun n => (hcell ⟨n.w, bt m.h n.h⟩).2.2.2
            have d1 : ∀ n : Lat m.w, n.w.cell? ⟨w.heap.size, 1, none⟩ = some (.int .i64 t.x) := fun n => c1 ⟨n.w, bt m.h n.h⟩
            have d2 : ∀ n : Lat m.w, n.w.cell? ⟨w.heap.size, 2, none⟩ = some (.int .i64 t.y) := fun n => c2 ⟨n.w, bt m.h n.h⟩
            have d3 : ∀ n : Lat m.w, n.w.cell? ⟨w.heap.size, 3, none⟩ = some (.int .i64 t.a) := fun n => c3 ⟨n.w, bt m.h n.h⟩
            have d4 : ∀ n : Lat m.w, n.w.cell? ⟨w.heap.size, 4, none⟩ = some (.int .i64 t.b) := fun n => c4 ⟨n.w, bt m.h n.h⟩
            have d8 : ∀ n : Lat m.w, n.w.cell? ⟨r, 3, none⟩ = some (.slice (some ⟨g, 0, none⟩) l.length cap) := fun n => c8 ⟨n.w, bt m.h n.h⟩
            have z9 := c8 m
            have hki : (k : Int) < (l.length : Nat) := by omega
            have hne2 := lat_some m.w
            clear hcell z0 z8 hne c0 c1 c2 c3 c4 c8
            cases hb : mtB s.x s.y s.a s.b t.x t.y t.a t.b
            · have HB := hide hb
              have HN := hide hno
              have HT := hide hsk
              clear hb hno hsk
              go_wp2_with fail
              refine wp_region_lat (by kernel_rfl) (by kernel_rfl) ?_
              repeat (go_big_quiet_step (first | (go_at_call 67; exact calls_lat (share_is HB.out))))
              refine wpQuiet_nil ?_
              rintro _ ⟨n2, rfl⟩
              go_wp2_with fail
              go_roundw
              case rel =>
                refine ⟨k + 1, by omega, by go_num, fun j s' hj hjk => ?_, ⟨n2.w, bt m.h n2.h⟩, rfl⟩
                by_cases hjk' : j = k
                · subst hjk'; rw [HT.out] at hj; cases hj; exact HB.out
                · exact HN.out j s' hj (by omega)
              case measure => simp [intOf]; omega
            · have hbusy := busy_yes hsk hb
              have HB := hide hb
              have HU := hide hbusy
              clear hb hno hbusy hsk
              go_wp2_with fail
              refine wp_region_lat (by kernel_rfl) (by kernel_rfl) ?_
              repeat (go_big_quiet_step (first | (go_at_call 67; exact calls_lat (share_is HB.out))))
              refine wpQuiet_nil ?_
              rintro _ ⟨n2, rfl⟩
              go_wp2_with fail
              go_ret
              exact ⟨ret_int (by rw [HC.out, if_pos HU.out]), bt B0 (bt m.h n2.h)⟩
          · obtain rfl : k = l.length := by omega
            have HU := hide (busy_no hno)
            have z9 := c8 m
            have hki : ¬ ((l.length : Nat) : Int) < (l.length : Nat) := by omega
            clear hno z0 z8 hne c0 c1 c2 c3 c4 c8
            go_wp2_with fail
            go_ret
            exact ⟨ret_int (by rw [HC.out, HU.out]; rfl), bt B0 m.h⟩
    · have H2 := hide h2
      rw [show refcode W H l t = 8 by simp [refcode, h1, h2]]
      have HS := hide hs
      clear h1 h2 hs
      go_enter Try.func49, Try.ntmps49
      go_wp2_with fail
      clear hX
      refine wp_region_lat (by kernel_rfl) (by kernel_rfl) ?_
      repeat (go_big_quiet_step (first
        | (go_at_call 34; exact calls_lat (refall_any _ _ _ _ _ _ _ (HK.out _).1))
        | (go_at_call 66; exact calls_lat (refmaybe_is H1.out))))
      refine wpQuiet_nil ?_
      rintro _ ⟨n, rfl⟩
      have z0 := c0 n
      go_wp2_with (go_at_call 40; refine (refplace_is (HK.out n).1 (HK.out n).2.1 HS.out hlen H2.out).mono ?_; rintro e w' ⟨rfl, rfl⟩)
      go_ret
      exact ⟨rfl, B0.trans (n.h.mono B0.size)⟩
end Go.Proofs.Ytobjadfchpgjeaa
