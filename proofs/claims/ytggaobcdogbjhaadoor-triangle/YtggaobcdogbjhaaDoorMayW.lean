/-
  May, At and Epoch of a World.
-/
import Derived.Test.YtggaobcdogbjhaaDoorMayBe
namespace Go.Proofs.YtggaobcdogbjhaaDoor
open Go.RowKit
set_option linter.unusedVariables false
/-- Why a building may not be placed: its number. -/
def code (W H : Int) (f : Int → Int → Option Int) (l : List Bd) (t : Bd) : Int :=
  if mb W H t = false then 1 else if found l t.id = true then 8 else if 256 ≤ l.length then 2 else if takenB f t.x t.y t.a t.b = true then 6 else 0
theorem made_is {p bm : Nat} {W H : Int} {tv bv ev : Value} {w : World} (hd : Wd w p W H tv bv bm ev) : Calls Tryd.prog 26 #[ptr p] w fun e w' => e = .returned (.bool true) ∧ w' = w := made_yes p bm w (hd.c 6)
theorem maybe_is {p bm : Nat} {W H : Int} {tv bv ev : Value} {t : Bd} {w : World} {c : Bool} (hd : Wd w p W H tv bv bm ev) (h : mb W H t = c) :
    Calls Tryd.prog 40 #[ptr p, t.v] w fun e w' => e = .returned (.bool c) ∧ Below w.heap.size w w' := by subst h; exact maybe_any p bm W H tv bv ev t w hd
theorem index_is {l : List Bd} {v : Value} {i : Int} {p : Nat} {w : World} {c : Bool} (hc : w.cell? ⟨p, 5, none⟩ = some v) (hv : Bds w v l) (hs : Sorted l) (hl : l.length ≤ 256) (h : found l i = c) :
    Calls Tryd.prog 41 #[ptr p, .int .i64 i] w fun e w' => e = .returned (.tuple #[.int .i64 (pos l i : Nat), .bool c]) ∧ Below w.heap.size w w' := by subst h; exact index_any l v i p w hc hv hs hl
theorem taken_is {p bm n : Nat} {f : Int → Int → Option Int} {x y a b : Int} {w : World} {c : Bool} (hc : w.cell? ⟨p, 6, none⟩ = some (.map (some bm))) (hw : Who w bm n f) (h : takenB f x y a b = c) :
    Calls Tryd.prog 42 #[ptr p, rct x y a b] w fun e w' => e = .returned (.bool c) ∧ Below w.heap.size w w' := by subst h; exact taken_any p bm n f x y a b w hc hw
set_option maxRecDepth 100000 in
set_option maxHeartbeats 2000000 in
theorem may_world (p bm n : Nat) (W H : Int) (tv bv ev : Value) (f : Int → Int → Option Int) (l : List Bd) (t : Bd) (w : World) (hd : Wd w p W H tv bv bm ev) (hw : Who w bm n f) (hl : Bds w bv l) (hs : Sorted l) (hlen : l.length ≤ 256) :
    Calls Tryd.prog 20 #[ptr p, t.v] w fun e w' => e = .returned (.int .i64 (code W H f l t)) ∧ Below w.heap.size w w' := by
  have B0 : Below w.heap.size w (w.alloc (.cells #[.int .i64 t.id, .int .i64 t.x, .int .i64 t.y, .int .i64 t.a, .int .i64 t.b] 71)) := box1 _ _
  have T0 : Turns NoB w (w.alloc (.cells #[.int .i64 t.id, .int .i64 t.x, .int .i64 t.y, .int .i64 t.a, .int .i64 t.b] 71)) := Turns.of_below B0
  have F0 : Five (w.alloc (.cells #[.int .i64 t.id, .int .i64 t.x, .int .i64 t.y, .int .i64 t.a, .int .i64 t.b] 71)) w.heap.size t := heap_alloc_new w _
  have hd0 := hd.kept T0 id
  have hw0 := hw.kept T0 id
  have hl0 := hl.kept T0 (fun _ _ => id)
  have hlI : (0 : Int) ≤ (l.length : Nat) ∧ ((l.length : Nat) : Int) ≤ 256 := by omega
  have H1 := hide (made_is hd0)
  cases h1 : mb W H t
  · have hcode : code W H f l t = 1 := by simp [code, h1]
    have H2 := hide (maybe_is (t := t) hd0 h1)
    rw [hcode]
    clear hcode h1 hd0 hw0 hl0 hd hw hl
    go_enter Tryd.func20, Tryd.ntmps20
    go_wp2_with (first | (go_at_call 26; refine H1.out.mono ?_; rintro e w' ⟨rfl, rfl⟩) | (go_at_call 40; refine H2.out.mono ?_; rintro e w1 ⟨rfl, hb1⟩))
    go_ret
    exact ⟨rfl, bt B0 hb1⟩
  · have H2 := hide (maybe_is (t := t) hd0 h1)
    have key : ∀ w1, Below (w.alloc (.cells #[.int .i64 t.id, .int .i64 t.x, .int .i64 t.y, .int .i64 t.a, .int .i64 t.b] 71)).heap.size (w.alloc (.cells #[.int .i64 t.id, .int .i64 t.x, .int .i64 t.y, .int .i64 t.a, .int .i64 t.b] 71)) w1 → Wd w1 p W H tv bv bm ev ∧ Who w1 bm n f ∧ Bds w1 bv l ∧ Five w1 w.heap.size t := fun w1 hb => by
      have T : Turns NoB (w.alloc (.cells #[.int .i64 t.id, .int .i64 t.x, .int .i64 t.y, .int .i64 t.a, .int .i64 t.b] 71)) w1 := Turns.of_below hb
      exact ⟨hd0.kept T id, hw0.kept T id, hl0.kept T (fun _ _ => id), F0.kept T id⟩
    have HK := hide key
    clear key hd0 hw0 hl0 hd hw hl T0
    cases h2 : found l t.id
    · by_cases h3 : 256 ≤ l.length
      · have hcode : code W H f l t = 2 := by simp [code, h1, h2, h3]
        have h3' : (256 : Int) ≤ (l.length : Nat) := by omega
        rw [hcode]
        have HS := hide hs
        have H3 := hide h2
        clear hcode h1 h2 hs
        go_enter Tryd.func20, Tryd.ntmps20
        go_wp2_with (first | (go_at_call 26; refine H1.out.mono ?_; rintro e w' ⟨rfl, rfl⟩) | (go_at_call 40; refine H2.out.mono ?_; rintro e w1 ⟨rfl, hb1⟩; obtain ⟨k1, k2, k3, k4⟩ := HK.out w1 hb1; have z0 : w1.cell? ⟨w.heap.size, 0, none⟩ = some (.int .i64 t.id) := k4.c 0)  | (go_at_call 41; refine (index_is (k1.c 5) k3 HS.out hlen H3.out).mono ?_; rintro e w2 ⟨rfl, hb2⟩; obtain ⟨m1, m2, m3, m4⟩ := HK.out w2 (bt hb1 hb2); have z5 : w2.cell? ⟨p, 5, none⟩ = some bv := m1.c 5; obtain ⟨a, cap, rfl, -, -, -⟩ := m3.form))
        go_ret
        exact ⟨rfl, bt B0 (bt hb1 hb2)⟩
      · have h3' : ¬ (256 : Int) ≤ (l.length : Nat) := by omega
        have hcode : code W H f l t = if takenB f t.x t.y t.a t.b = true then 6 else 0 := by simp [code, h1, h2, h3]
        rw [hcode]
        have HS := hide hs
        have H3 := hide h2
        clear hcode h1 h2 hs
        cases h4 : takenB f t.x t.y t.a t.b
        all_goals
          have H4 := hide h4
          clear h4
          go_enter Tryd.func20, Tryd.ntmps20
          go_wp2_with (first | (go_at_call 26; refine H1.out.mono ?_; rintro e w' ⟨rfl, rfl⟩) | (go_at_call 40; refine H2.out.mono ?_; rintro e w1 ⟨rfl, hb1⟩; obtain ⟨k1, k2, k3, k4⟩ := HK.out w1 hb1; have z0 : w1.cell? ⟨w.heap.size, 0, none⟩ = some (.int .i64 t.id) := k4.c 0)  | (go_at_call 41; refine (index_is (k1.c 5) k3 HS.out hlen H3.out).mono ?_; rintro e w2 ⟨rfl, hb2⟩; obtain ⟨m1, m2, m3, m4⟩ := HK.out w2 (bt hb1 hb2); have z5 : w2.cell? ⟨p, 5, none⟩ = some bv := m1.c 5; obtain ⟨a, cap, rfl, -, -, -⟩ := m3.form; have y1 : w2.cell? ⟨w.heap.size, 1, none⟩ = some (.int .i64 t.x) := m4.c 1; have y2 : w2.cell? ⟨w.heap.size, 2, none⟩ = some (.int .i64 t.y) := m4.c 2; have y3 : w2.cell? ⟨w.heap.size, 3, none⟩ = some (.int .i64 t.a) := m4.c 3; have y4 : w2.cell? ⟨w.heap.size, 4, none⟩ = some (.int .i64 t.b) := m4.c 4)  | (go_at_call 42; refine (taken_is (m1.c 6) m2 H4.out).mono ?_; rintro e w3 ⟨rfl, hb3⟩))
          go_ret
          exact ⟨rfl, bt B0 (bt (bt hb1 hb2) hb3)⟩
    · have hcode : code W H f l t = 8 := by simp [code, h1, h2]
      rw [hcode]
      have HS := hide hs
      have H3 := hide h2
      clear hcode h1 h2 hs
      go_enter Tryd.func20, Tryd.ntmps20
      go_wp2_with (first | (go_at_call 26; refine H1.out.mono ?_; rintro e w' ⟨rfl, rfl⟩) | (go_at_call 40; refine H2.out.mono ?_; rintro e w1 ⟨rfl, hb1⟩; obtain ⟨k1, k2, k3, k4⟩ := HK.out w1 hb1; have z0 : w1.cell? ⟨w.heap.size, 0, none⟩ = some (.int .i64 t.id) := k4.c 0)  | (go_at_call 41; refine (index_is (k1.c 5) k3 HS.out hlen H3.out).mono ?_; rintro e w2 ⟨rfl, hb2⟩))
      go_ret
      exact ⟨rfl, bt B0 (bt hb1 hb2)⟩
end Go.Proofs.YtggaobcdogbjhaaDoor
