/-
  Whether a World was made; which building may be. May, At and Epoch of a World. Place of a World. At and Epoch of a World.
-/
import Derived.Test.YthiafmlgialbnaaGreatDoorStand
import Derived.Test.YthiafmlgialbnaaGreatDoorSpan
import Derived.WalkSpells
namespace Go.Proofs.YthiafmlgialbnaaGreatDoor
open Go.RowKit
set_option linter.unusedVariables false
def gs (n most : Int) : Bool := decide (1 ≤ n ∧ n ≤ most)
theorem gside_any (n most : Int) (w : World) : Calls Tryz.prog 78 #[.int .i64 n, .int .i64 most] w fun e w' => e = .returned (.bool (gs n most)) ∧ w' = w := by
  by_cases h1 : 1 ≤ n
  · by_cases h2 : n ≤ most
    · go_enter Tryz.func78, Tryz.ntmps78
      go_wp2
      go_ret
      exact ⟨ret_bool (by simp [gs, h1, h2]), rfl⟩
    · go_enter Tryz.func78, Tryz.ntmps78
      go_wp2
      go_ret
      exact ⟨ret_bool (by simp [gs, h1, h2]), rfl⟩
  · go_enter Tryz.func78, Tryz.ntmps78
    go_wp2
    go_ret
    exact ⟨ret_bool (by rw [eq_comm, gs, decide_eq_false_iff_not]; omega), rfl⟩
theorem neq_map (b : Nat) (w : World) : (binOp .neq 87 (.map (some b)) (.map none)).run Tryz.prog w = .ok (.bool true) w := by kernel_rfl
theorem made_yes (p bm : Nat) (w : World) (hc : w.cell? ⟨p, 6, none⟩ = some (.map (some bm))) : Calls Tryz.prog 41 #[ptr p] w fun e w' => e = .returned (.bool true) ∧ w' = w := by
  have h1 := neq_map
  go_enter Tryz.func41, Tryz.ntmps41
  go_wp2
  go_ret
  exact ⟨rfl, rfl⟩
/-- A building that may be, in a map of W times H tiles. -/
def mb (W H : Int) (t : Bd) : Bool := decide (1 ≤ t.id) && (decide (t.id ≤ 2147483647) && (gs t.a 8 && (gs t.b 8 && wi t.x t.y t.a t.b 0 0 W H)))
theorem within_is {x y a b p q c d : Int} {r : Bool} (w : World) (h : wi x y a b p q c d = r) :
    Calls Tryz.prog 113 #[rct x y a b, rct p q c d] w fun e w' => e = .returned (.bool r) ∧ Below w.heap.size w w' := by
  subst h; exact within_any x y a b p q c d w
/-- The box of a building and a World, read in every later world. -/
theorem mb_cells {w : World} {p bm : Nat} {W H : Int} {tv bv ev : Value} (hd : Wd w p W H tv bv bm ev) (t : Bd) : ∃ X, w.alloc (.cells #[.int .i64 t.id, .int .i64 t.x, .int .i64 t.y, .int .i64 t.a, .int .i64 t.b] 51) = X ∧ Below w.heap.size w X ∧
    ((∀ n : Lat X, n.w.cell? ⟨w.heap.size, 0, none⟩ = some (.int .i64 t.id)) ∧ (∀ n : Lat X, n.w.cell? ⟨w.heap.size, 1, none⟩ = some (.int .i64 t.x)) ∧ (∀ n : Lat X, n.w.cell? ⟨w.heap.size, 2, none⟩ = some (.int .i64 t.y)) ∧ (∀ n : Lat X, n.w.cell? ⟨w.heap.size, 3, none⟩ = some (.int .i64 t.a)) ∧ (∀ n : Lat X, n.w.cell? ⟨w.heap.size, 4, none⟩ = some (.int .i64 t.b))) ∧
    ((∀ n : Lat X, n.w.cell? ⟨p, 0, none⟩ = some (.int .i64 0)) ∧ (∀ n : Lat X, n.w.cell? ⟨p, 1, none⟩ = some (.int .i64 0)) ∧ (∀ n : Lat X, n.w.cell? ⟨p, 2, none⟩ = some (.int .i64 W)) ∧ (∀ n : Lat X, n.w.cell? ⟨p, 3, none⟩ = some (.int .i64 H))) := by
  have TX : Turns NoB w (w.alloc (.cells t.cs.toArray 51)) := Turns.of_below (box1 _ _)
  have F : Five (w.alloc (.cells t.cs.toArray 51)) w.heap.size t := heap_alloc_new w _
  have Fn : ∀ n : Lat (w.alloc (.cells t.cs.toArray 51)), Five n.w w.heap.size t := fun n => F.kept (Turns.of_below (S := NoB) n.h) id
  have Dn : ∀ n : Lat (w.alloc (.cells t.cs.toArray 51)), Wd n.w p W H tv bv bm ev := fun n => (hd.kept TX id).kept (Turns.of_below (S := NoB) n.h) id
  exact ⟨_, rfl, box1 _ _, ⟨fun n => (Fn n).c 0, fun n => (Fn n).c 1, fun n => (Fn n).c 2, fun n => (Fn n).c 3, fun n => (Fn n).c 4⟩, fun n => (Dn n).c 0, fun n => (Dn n).c 1, fun n => (Dn n).c 2, fun n => (Dn n).c 3⟩
set_option maxHeartbeats 2000000 in
theorem maybe_0 (p bm : Nat) (W H : Int) (tv bv ev : Value) (t : Bd) (w : World) (hd : Wd w p W H tv bv bm ev) (h1 : ¬ 1 ≤ t.id) :
    Calls Tryz.prog 80 #[ptr p, t.v] w fun e w' => e = .returned (.bool (mb W H t)) ∧ Below w.heap.size w w' := by
  rw [show mb W H t = false by simp [mb, h1]]
  have dh1 := decide_eq_false h1
  obtain ⟨X, hX, HB, ⟨c0, c1, c2, c3, c4⟩, e0, e1, e2, e3⟩ := mb_cells hd t
  go_enter Tryz.func80, Tryz.ntmps80
  go_wp2_with fail
  clear hX hd
  have hne := lat_some X
  refine wp_region_lat (by kernel_rfl) (by kernel_rfl) ?_
  repeat (go_big_quiet_step (first
    | (go_at_call 78; exact calls_lat_same (gside_any _ _ _))
    | (go_at_call 113; exact calls_lat (within_any _ _ _ _ _ _ _ _ _))))
  refine wpQuiet_nil ?_
  rintro _ ⟨n, rfl⟩
  go_wp2_with fail
  go_ret
  exact ⟨rfl, HB.trans (n.h.mono HB.size)⟩
set_option maxHeartbeats 2000000 in
theorem maybe_1 (p bm : Nat) (W H : Int) (tv bv ev : Value) (t : Bd) (w : World) (hd : Wd w p W H tv bv bm ev) (h1 : 1 ≤ t.id) (h2 : ¬ t.id ≤ 2147483647) :
    Calls Tryz.prog 80 #[ptr p, t.v] w fun e w' => e = .returned (.bool (mb W H t)) ∧ Below w.heap.size w w' := by
  rw [show mb W H t = false by simp [mb, h1, h2]]
  have dh1 := decide_eq_true h1
  have dh2 := decide_eq_false h2
  obtain ⟨X, hX, HB, ⟨c0, c1, c2, c3, c4⟩, e0, e1, e2, e3⟩ := mb_cells hd t
  go_enter Tryz.func80, Tryz.ntmps80
  go_wp2_with fail
  clear hX hd
  have hne := lat_some X
  refine wp_region_lat (by kernel_rfl) (by kernel_rfl) ?_
  repeat (go_big_quiet_step (first
    | (go_at_call 78; exact calls_lat_same (gside_any _ _ _))
    | (go_at_call 113; exact calls_lat (within_any _ _ _ _ _ _ _ _ _))))
  refine wpQuiet_nil ?_
  rintro _ ⟨n, rfl⟩
  go_wp2_with fail
  go_ret
  exact ⟨rfl, HB.trans (n.h.mono HB.size)⟩
set_option maxHeartbeats 2000000 in
theorem maybe_2 (p bm : Nat) (W H : Int) (tv bv ev : Value) (t : Bd) (w : World) (hd : Wd w p W H tv bv bm ev) (h1 : 1 ≤ t.id) (h2 : t.id ≤ 2147483647) (h3 : gs t.a 8 = false) :
    Calls Tryz.prog 80 #[ptr p, t.v] w fun e w' => e = .returned (.bool (mb W H t)) ∧ Below w.heap.size w w' := by
  rw [show mb W H t = false by simp [mb, h1, h2, h3]]
  have dh1 := decide_eq_true h1
  have dh2 := decide_eq_true h2
  obtain ⟨X, hX, HB, ⟨c0, c1, c2, c3, c4⟩, e0, e1, e2, e3⟩ := mb_cells hd t
  go_enter Tryz.func80, Tryz.ntmps80
  go_wp2_with fail
  clear hX hd
  have hne := lat_some X
  refine wp_region_lat (by kernel_rfl) (by kernel_rfl) ?_
  repeat (go_big_quiet_step (first
    | (go_at_call 78; exact calls_lat_same (gside_any _ _ _))
    | (go_at_call 113; exact calls_lat (within_any _ _ _ _ _ _ _ _ _))))
  refine wpQuiet_nil ?_
  rintro _ ⟨n, rfl⟩
  go_wp2_with fail
  go_ret
  exact ⟨rfl, HB.trans (n.h.mono HB.size)⟩
set_option maxHeartbeats 2000000 in
theorem maybe_3 (p bm : Nat) (W H : Int) (tv bv ev : Value) (t : Bd) (w : World) (hd : Wd w p W H tv bv bm ev) (h1 : 1 ≤ t.id) (h2 : t.id ≤ 2147483647) (h3 : gs t.a 8 = true) (h4 : gs t.b 8 = false) :
    Calls Tryz.prog 80 #[ptr p, t.v] w fun e w' => e = .returned (.bool (mb W H t)) ∧ Below w.heap.size w w' := by
  rw [show mb W H t = false by simp [mb, h1, h2, h3, h4]]
  have dh1 := decide_eq_true h1
  have dh2 := decide_eq_true h2
  obtain ⟨X, hX, HB, ⟨c0, c1, c2, c3, c4⟩, e0, e1, e2, e3⟩ := mb_cells hd t
  go_enter Tryz.func80, Tryz.ntmps80
  go_wp2_with fail
  clear hX hd
  have hne := lat_some X
  refine wp_region_lat (by kernel_rfl) (by kernel_rfl) ?_
  repeat (go_big_quiet_step (first
    | (go_at_call 78; exact calls_lat_same (gside_any _ _ _))
    | (go_at_call 113; exact calls_lat (within_any _ _ _ _ _ _ _ _ _))))
  refine wpQuiet_nil ?_
  rintro _ ⟨n, rfl⟩
  go_wp2_with fail
  go_ret
  exact ⟨rfl, HB.trans (n.h.mono HB.size)⟩
set_option maxHeartbeats 2000000 in
theorem maybe_4 (p bm : Nat) (W H : Int) (tv bv ev : Value) (t : Bd) (w : World) (hd : Wd w p W H tv bv bm ev) (h1 : 1 ≤ t.id) (h2 : t.id ≤ 2147483647) (h3 : gs t.a 8 = true) (h4 : gs t.b 8 = true) :
    Calls Tryz.prog 80 #[ptr p, t.v] w fun e w' => e = .returned (.bool (mb W H t)) ∧ Below w.heap.size w w' := by
  rw [show mb W H t = wi t.x t.y t.a t.b 0 0 W H by simp [mb, h1, h2, h3, h4]]
  have dh1 := decide_eq_true h1
  have dh2 := decide_eq_true h2
  obtain ⟨X, hX, HB, ⟨c0, c1, c2, c3, c4⟩, e0, e1, e2, e3⟩ := mb_cells hd t
  go_enter Tryz.func80, Tryz.ntmps80
  go_wp2_with fail
  clear hX hd
  have hne := lat_some X
  refine wp_region_lat (by kernel_rfl) (by kernel_rfl) ?_
  repeat (go_big_quiet_step (first
    | (go_at_call 78; exact calls_lat_same (gside_any _ _ _))
    | (go_at_call 113; exact calls_lat (within_any _ _ _ _ _ _ _ _ _))))
  refine wpQuiet_nil ?_
  rintro _ ⟨n, rfl⟩
  go_wp2_with fail
  go_ret
  exact ⟨rfl, HB.trans (n.h.mono HB.size)⟩
theorem maybe_any (p bm : Nat) (W H : Int) (tv bv ev : Value) (t : Bd) (w : World) (hd : Wd w p W H tv bv bm ev) :
    Calls Tryz.prog 80 #[ptr p, t.v] w fun e w' => e = .returned (.bool (mb W H t)) ∧ Below w.heap.size w w' := by
  by_cases h1 : 1 ≤ t.id
  · by_cases h2 : t.id ≤ 2147483647
    · cases h3 : gs t.a 8
      · exact maybe_2 p bm W H tv bv ev t w hd h1 h2 h3
      · cases h4 : gs t.b 8
        · exact maybe_3 p bm W H tv bv ev t w hd h1 h2 h3 h4
        · exact maybe_4 p bm W H tv bv ev t w hd h1 h2 h3 h4
    · exact maybe_1 p bm W H tv bv ev t w hd h1 h2
  · exact maybe_0 p bm W H tv bv ev t w hd h1
end Go.Proofs.YthiafmlgialbnaaGreatDoor
namespace Go.Proofs.YthiafmlgialbnaaGreatDoor
open Go.RowKit
set_option linter.unusedVariables false
/-- Why a building may not be placed: its number. -/
def code (W H : Int) (f : Int → Int → Option Int) (l : List Bd) (t : Bd) : Int :=
  if mb W H t = false then 1 else if found l t.id = true then 8 else if 256 ≤ l.length then 2 else if takenB f t.x t.y t.a t.b = true then 6 else 0
theorem made_is {p bm : Nat} {W H : Int} {tv bv ev : Value} {w : World} (hd : Wd w p W H tv bv bm ev) : Calls Tryz.prog 41 #[ptr p] w fun e w' => e = .returned (.bool true) ∧ w' = w := made_yes p bm w (hd.c 6)
theorem maybe_is {p bm : Nat} {W H : Int} {tv bv ev : Value} {t : Bd} {w : World} {c : Bool} (hd : Wd w p W H tv bv bm ev) (h : mb W H t = c) :
    Calls Tryz.prog 80 #[ptr p, t.v] w fun e w' => e = .returned (.bool c) ∧ Below w.heap.size w w' := by subst h; exact maybe_any p bm W H tv bv ev t w hd
theorem index_is {l : List Bd} {v : Value} {i : Int} {p : Nat} {w : World} {c : Bool} (hc : w.cell? ⟨p, 5, none⟩ = some v) (hv : Bds w v l) (hs : Sorted l) (hl : l.length ≤ 256) (h : found l i = c) :
    Calls Tryz.prog 68 #[ptr p, .int .i64 i] w fun e w' => e = .returned (.tuple #[.int .i64 (pos l i : Nat), .bool c]) ∧ Below w.heap.size w w' := by subst h; exact index_any l v i p w hc hv hs hl
theorem taken_is {p bm n : Nat} {f : Int → Int → Option Int} {x y a b : Int} {w : World} {c : Bool} (hc : w.cell? ⟨p, 6, none⟩ = some (.map (some bm))) (hw : Who w bm n f) (h : takenB f x y a b = c) :
    Calls Tryz.prog 81 #[ptr p, rct x y a b] w fun e w' => e = .returned (.bool c) ∧ Below w.heap.size w w' := by subst h; exact taken_any p bm n f x y a b w hc hw
set_option maxRecDepth 100000 in
set_option maxHeartbeats 2000000 in
theorem may_world (p bm n : Nat) (W H : Int) (tv bv ev : Value) (f : Int → Int → Option Int) (l : List Bd) (t : Bd) (w : World) (hd : Wd w p W H tv bv bm ev) (hw : Who w bm n f) (hl : Bds w bv l) (hs : Sorted l) (hlen : l.length ≤ 256) :
    Calls Tryz.prog 48 #[ptr p, t.v] w fun e w' => e = .returned (.int .i64 (code W H f l t)) ∧ Below w.heap.size w w' := by
  have B0 : Below w.heap.size w (w.alloc (.cells #[.int .i64 t.id, .int .i64 t.x, .int .i64 t.y, .int .i64 t.a, .int .i64 t.b] 51)) := box1 _ _
  have T0 : Turns NoB w (w.alloc (.cells #[.int .i64 t.id, .int .i64 t.x, .int .i64 t.y, .int .i64 t.a, .int .i64 t.b] 51)) := Turns.of_below B0
  have F0 : Five (w.alloc (.cells #[.int .i64 t.id, .int .i64 t.x, .int .i64 t.y, .int .i64 t.a, .int .i64 t.b] 51)) w.heap.size t := heap_alloc_new w _
  have hd0 := hd.kept T0 id
  have hw0 := hw.kept T0 id
  have hl0 := hl.kept T0 (fun _ _ => id)
  have hlI : (0 : Int) ≤ (l.length : Nat) ∧ ((l.length : Nat) : Int) ≤ 256 := by omega
  have H1 := hide (made_is hd0)
  cases h1 : mb W H t
  · have hcode : code W H f l t = 1 := by simp [code, h1]
    have H2 := hide (maybe_is (t := t) hd0 h1)
    rw [hcode]
    clear hcode h1 hd0 hw0 hl0 hd hw hl
    go_enter Tryz.func48, Tryz.ntmps48
    go_wp2_with (first | (go_at_call 41; refine H1.out.mono ?_; rintro e w' ⟨rfl, rfl⟩) | (go_at_call 80; refine H2.out.mono ?_; rintro e w1 ⟨rfl, hb1⟩))
    go_ret
    exact ⟨rfl, bt B0 hb1⟩
  · have H2 := hide (maybe_is (t := t) hd0 h1)
    have key : ∀ w1, Below (w.alloc (.cells #[.int .i64 t.id, .int .i64 t.x, .int .i64 t.y, .int .i64 t.a, .int .i64 t.b] 51)).heap.size (w.alloc (.cells #[.int .i64 t.id, .int .i64 t.x, .int .i64 t.y, .int .i64 t.a, .int .i64 t.b] 51)) w1 → Wd w1 p W H tv bv bm ev ∧ Who w1 bm n f ∧ Bds w1 bv l ∧ Five w1 w.heap.size t := fun w1 hb => by
      have T : Turns NoB (w.alloc (.cells #[.int .i64 t.id, .int .i64 t.x, .int .i64 t.y, .int .i64 t.a, .int .i64 t.b] 51)) w1 := Turns.of_below hb
      exact ⟨hd0.kept T id, hw0.kept T id, hl0.kept T (fun _ _ => id), F0.kept T id⟩
    have HK := hide key
    clear key hd0 hw0 hl0 hd hw hl T0
    cases h2 : found l t.id
    · by_cases h3 : 256 ≤ l.length
      · have hcode : code W H f l t = 2 := by simp [code, h1, h2, h3]
        have h3' : (256 : Int) ≤ (l.length : Nat) := by omega
        rw [hcode]
        have HS := hide hs
        have H3 := hide h2
        clear hcode h1 h2 hs
        go_enter Tryz.func48, Tryz.ntmps48
        go_wp2_with (first | (go_at_call 41; refine H1.out.mono ?_; rintro e w' ⟨rfl, rfl⟩) | (go_at_call 80; refine H2.out.mono ?_; rintro e w1 ⟨rfl, hb1⟩; obtain ⟨k1, k2, k3, k4⟩ := HK.out w1 hb1; have z0 : w1.cell? ⟨w.heap.size, 0, none⟩ = some (.int .i64 t.id) := k4.c 0)  | (go_at_call 68; refine (index_is (k1.c 5) k3 HS.out hlen H3.out).mono ?_; rintro e w2 ⟨rfl, hb2⟩; obtain ⟨m1, m2, m3, m4⟩ := HK.out w2 (bt hb1 hb2); have z5 : w2.cell? ⟨p, 5, none⟩ = some bv := m1.c 5; obtain ⟨a, cap, rfl, -, -, -⟩ := m3.form))
        go_ret
        exact ⟨rfl, bt B0 (bt hb1 hb2)⟩
      · have h3' : ¬ (256 : Int) ≤ (l.length : Nat) := by omega
        have hcode : code W H f l t = if takenB f t.x t.y t.a t.b = true then 6 else 0 := by simp [code, h1, h2, h3]
        rw [hcode]
        have HS := hide hs
        have H3 := hide h2
        clear hcode h1 h2 hs
        cases h4 : takenB f t.x t.y t.a t.b
        all_goals
          have H4 := hide h4
          clear h4
          go_enter Tryz.func48, Tryz.ntmps48
          go_wp2_with (first | (go_at_call 41; refine H1.out.mono ?_; rintro e w' ⟨rfl, rfl⟩) | (go_at_call 80; refine H2.out.mono ?_; rintro e w1 ⟨rfl, hb1⟩; obtain ⟨k1, k2, k3, k4⟩ := HK.out w1 hb1; have z0 : w1.cell? ⟨w.heap.size, 0, none⟩ = some (.int .i64 t.id) := k4.c 0)  | (go_at_call 68; refine (index_is (k1.c 5) k3 HS.out hlen H3.out).mono ?_; rintro e w2 ⟨rfl, hb2⟩; obtain ⟨m1, m2, m3, m4⟩ := HK.out w2 (bt hb1 hb2); have z5 : w2.cell? ⟨p, 5, none⟩ = some bv := m1.c 5; obtain ⟨a, cap, rfl, -, -, -⟩ := m3.form; have y1 : w2.cell? ⟨w.heap.size, 1, none⟩ = some (.int .i64 t.x) := m4.c 1; have y2 : w2.cell? ⟨w.heap.size, 2, none⟩ = some (.int .i64 t.y) := m4.c 2; have y3 : w2.cell? ⟨w.heap.size, 3, none⟩ = some (.int .i64 t.a) := m4.c 3; have y4 : w2.cell? ⟨w.heap.size, 4, none⟩ = some (.int .i64 t.b) := m4.c 4)  | (go_at_call 81; refine (taken_is (m1.c 6) m2 H4.out).mono ?_; rintro e w3 ⟨rfl, hb3⟩))
          go_ret
          exact ⟨rfl, bt B0 (bt (bt hb1 hb2) hb3)⟩
    · have hcode : code W H f l t = 8 := by simp [code, h1, h2]
      rw [hcode]
      have HS := hide hs
      have H3 := hide h2
      clear hcode h1 h2 hs
      go_enter Tryz.func48, Tryz.ntmps48
      go_wp2_with (first | (go_at_call 41; refine H1.out.mono ?_; rintro e w' ⟨rfl, rfl⟩) | (go_at_call 80; refine H2.out.mono ?_; rintro e w1 ⟨rfl, hb1⟩; obtain ⟨k1, k2, k3, k4⟩ := HK.out w1 hb1; have z0 : w1.cell? ⟨w.heap.size, 0, none⟩ = some (.int .i64 t.id) := k4.c 0)  | (go_at_call 68; refine (index_is (k1.c 5) k3 HS.out hlen H3.out).mono ?_; rintro e w2 ⟨rfl, hb2⟩))
      go_ret
      exact ⟨rfl, bt B0 (bt hb1 hb2)⟩
end Go.Proofs.YthiafmlgialbnaaGreatDoor
namespace Go.Proofs.YthiafmlgialbnaaGreatDoor
open Go.RowKit
set_option linter.unusedVariables false
structure Rc where
  x : Int
  y : Int
  a : Int
  b : Int
def Rc.cs (r : Rc) : List Value := [.int .i64 r.x, .int .i64 r.y, .int .i64 r.a, .int .i64 r.b]
def Bd.foot (t : Bd) : Rc := ⟨t.x, t.y, t.a, t.b⟩
/-- The slice v reads as the rectangles l. -/
def Rcs (w : World) (v : Value) (l : List Rc) : Prop := w.ownsRow 0 49 4 v l.length (l.flatMap Rc.cs)
theorem row_kept {w w' : World} {e : TypeId} {k n : Nat} {v : Value} {xs : List Value} {S : Nat → Prop} (h : w.ownsRow 0 e k v n xs) (ht : Turns S w w') (hs : ∀ k, v.ownBlock = some k → ¬ S k) : w'.ownsRow 0 e k v n xs := by
  refine ⟨h.1, ?_⟩
  rcases h.2 with h1 | ⟨g, cap, cur, e, hb, hg, r⟩
  · exact .inl h1
  · exact .inr ⟨g, cap, cur, e, hb, ht.same (hs g (by rw [e]; rfl)) hg, r⟩
theorem rows_ne {w : World} {e e' : TypeId} {k k' n n' : Nat} {v v' : Value} {xs xs' : List Value} (h : w.ownsRow 0 e k v n xs) (h' : w.ownsRow 0 e' k' v' n' xs') (he : e ≠ e') {b : Nat} (hb : v.ownBlock = some b) : v'.ownBlock ≠ some b := by
  intro hb'
  rcases h.2 with ⟨rfl, _⟩ | ⟨g, cap, cur, rfl, _, hg, _⟩
  · simp [Value.ownBlock] at hb
  · rcases h'.2 with ⟨rfl, _⟩ | ⟨g', cap', cur', rfl, _, hg', _⟩
    · simp [Value.ownBlock] at hb'
    · simp [Value.ownBlock] at hb hb'
      subst hb; subst hb'
      rw [hg] at hg'
      simp at hg'
      exact he hg'.2
def z43 : Value := .agg #[.int .i64 0, .int .i64 0, .int .i64 0, .int .i64 0]
theorem mb_len {W H : Int} {t : Bd} (h : mb W H t = true) : (allC t.x t.y t.a t.b).length ≤ 64 := by
  simp only [mb, Bool.and_eq_true, gs, decide_eq_true_iff] at h
  obtain ⟨h1, h2, ⟨a0, a1⟩, ⟨b0, b1⟩, h5⟩ := h
  unfold allC
  split
  · rw [upto_length]
    have : t.b.toNat ≤ 8 := by omega
    have : t.a.toNat ≤ 8 := by omega
    calc t.b.toNat * t.a.toNat ≤ 8 * 8 := Nat.mul_le_mul (by omega) (by omega)
      _ = 64 := rfl
  · simp
theorem mb_id {W H : Int} {t : Bd} (h : mb W H t = true) : W64 t.id := by
  simp only [mb, Bool.and_eq_true, decide_eq_true_iff] at h
  exact w64_of (by omega)
theorem code_zero {W H : Int} {f : Int → Int → Option Int} {l : List Bd} {t : Bd} (h : code W H f l t = 0) : mb W H t = true ∧ found l t.id = false ∧ l.length < 256 ∧ takenB f t.x t.y t.a t.b = false := by
  unfold code at h
  cases h1 : mb W H t
  · simp [h1] at h
  · cases h2 : found l t.id
    · by_cases h3 : 256 ≤ l.length
      · simp [h1, h2, h3] at h
      · cases h4 : takenB f t.x t.y t.a t.b
        · exact ⟨rfl, rfl, by omega, rfl⟩
        · simp [h1, h2, h3, h4] at h
    · simp [h1, h2] at h
/-- What Place leaves. -/
def Placed (w : World) (p bm n : Nat) (W H : Int) (tv bv ev : Value) (f : Int → Int → Option Int) (l : List Bd) (es : List Rc) (t : Bd) (w' : World) : Prop :=
  ∃ bv' ev', Wd w' p W H tv bv' bm ev' ∧ Bds w' bv' (ins l t) ∧ Who w' bm (n + 64) (putAll f (allC t.x t.y t.a t.b) t.id) ∧ Rcs w' ev' (es ++ [t.foot]) ∧
    Turns (fun k => k = p ∨ k = bm ∨ bv.ownBlock = some k ∨ ev.ownBlock = some k) w w' ∧ (∀ k, bv'.ownBlock = some k → bv.ownBlock = some k ∨ w.heap.size ≤ k) ∧ (∀ k, ev'.ownBlock = some k → ev.ownBlock = some k ∨ w.heap.size ≤ k)
end Go.Proofs.YthiafmlgialbnaaGreatDoor
namespace Go.Proofs.YthiafmlgialbnaaGreatDoor
open Go.RowKit
set_option linter.unusedVariables false
set_option maxHeartbeats 1000000 in
theorem at_world (p bm n : Nat) (W H : Int) (tv bv ev : Value) (f : Int → Int → Option Int) (x y : Int) (hx : W64 x) (hy : W64 y) (w : World) (hd : Wd w p W H tv bv bm ev) (hw : Who w bm n f) :
    Calls Tryz.prog 191 #[ptr p, cel x y] w fun e w' => e = .returned (.tuple #[.int .i64 ((f x y).getD 0), .bool (f x y).isSome]) ∧ Below w.heap.size w w' := by
  have B0 : Below w.heap.size w (w.alloc (.cells #[.int .i64 x, .int .i64 y] 47)) := box1 _ _
  have T0 : Turns NoB w (w.alloc (.cells #[.int .i64 x, .int .i64 y] 47)) := Turns.of_below B0
  have hd0 := hd.kept T0 id
  have hw0 := hw.kept T0 id
  have HM := hide (made_is hd0)
  have bX : Two (w.alloc (.cells #[.int .i64 x, .int .i64 y] 47)) w.heap.size x y := Two.newAt rfl
  obtain ⟨X, hX⟩ : ∃ X, w.alloc (.cells #[.int .i64 x, .int .i64 y] 47) = X := ⟨_, rfl⟩
  rw [hX] at B0 hd0 hw0 HM bX
  obtain ⟨d0, d1⟩ := bX.lat
  have c6 : ∀ n : Lat X, n.w.cell? ⟨p, 6, none⟩ = some (.map (some bm)) := fun n => (hd0.kept (Turns.of_below (S := NoB) n.h) id).c 6
  have hlook : ∀ m : Lat X, (Instr.lookup 87 (.map (some bm)) (cel x y) true).run Tryz.prog m.w = .ok (.tuple #[.int .i64 ((f x y).getD 0), .bool (f x y).isSome]) m.w := fun m => (hw0.kept (Turns.of_below (S := NoB) m.h) id).look hx hy
  obtain ⟨z, hz⟩ : ∃ z, (f x y).getD 0 = z := ⟨_, rfl⟩
  obtain ⟨b, hb⟩ : ∃ b, (f x y).isSome = b := ⟨_, rfl⟩
  rw [hz, hb] at hlook ⊢
  have hne := lat_some X
  clear hz hb hd0 hw0 hd hw bX
  go_enter Tryz.func191, Tryz.ntmps191
  go_wp2_with (go_at_call 41; refine HM.out.mono ?_; rintro e w1 ⟨rfl, rfl⟩)
  clear hX
  refine wp_region_lat (by kernel_rfl) (by kernel_rfl) ?_
  repeat (go_big_quiet_step (fail))
  refine wpQuiet_nil ?_
  rintro _ ⟨n, rfl⟩
  go_wp2_with fail
  go_ret2
  exact ⟨rfl, B0.trans (n.h.mono B0.size)⟩
end Go.Proofs.YthiafmlgialbnaaGreatDoor
