/-
  All and Find of a World, Find and At of the document's.
-/
import Derived.Test.YtobjadfchpgjeaaPure
import Derived.Test.YtobjadfchpgjeaaAtW
namespace Go.Proofs.Ytobjadfchpgjeaa
open Go.RowKit
set_option linter.unusedVariables false
abbrev Z4 (w : World) : World := w.alloc (.cells #[.int .i64 0, .int .i64 0, .int .i64 0, .int .i64 0] 43)
set_option maxHeartbeats 1000000 in
theorem all_world (p bm : Nat) (W H : Int) (tv bv ev : Value) (w : World) (hd : Wd w p W H tv bv bm ev) : Calls Try.prog 29 #[ptr p] w fun e w' => e = .returned (rct 0 0 W H) ∧ Below w.heap.size w w' := by
  have B0 : Below w.heap.size w (Z4 w) := box1 _ _
  have hd0 : Wd (Z4 w) p W H tv bv bm ev := hd.kept (Turns.of_below (S := NoB) B0) id
  have HM := hide (made_is hd0)
  have c0 : (Z4 w).cell? ⟨p, 0, none⟩ = some (.int .i64 0) := hd0.c 0
  have c1 : (Z4 w).cell? ⟨p, 1, none⟩ = some (.int .i64 0) := hd0.c 1
  have c2 : (Z4 w).cell? ⟨p, 2, none⟩ = some (.int .i64 W) := hd0.c 2
  have c3 : (Z4 w).cell? ⟨p, 3, none⟩ = some (.int .i64 H) := hd0.c 3
  have hp := hd.lt
  obtain ⟨⟨g0, g1, g2, g3⟩, ⟨f0, f1, f2, f3⟩, zz⟩ : Four (Z4 w) w.heap.size 0 0 0 0 := cells4 (Below.refl _ _)
  clear hd0 hd
  go_enter Try.func29, Try.ntmps29
  go_wp2_with (go_at_call 36; refine HM.out.mono ?_; rintro e w1 ⟨rfl, rfl⟩)
  refine bodyPost_ret (v := rct 0 0 W H) (by simp [results, Try.results29, go_sem]) rfl ⟨rfl, ?_⟩
  exact box1 _ _
set_option maxHeartbeats 1000000 in
theorem find_no (p bm : Nat) (W H : Int) (tv bv ev : Value) (l : List Bd) (i : Int) (w : World) (hd : Wd w p W H tv bv bm ev) (hl : Bds w bv l) (hs : Sorted l) (hlen : l.length ≤ 256) (hf : found l i = false) :
    Calls Try.prog 15 #[ptr p, .int .i64 i] w fun e w' => e = .returned (.tuple #[rct 0 0 0 0, .bool false]) ∧ Below w.heap.size w w' := by
  have B0 : Below w.heap.size w (Z4 w) := box1 _ _
  have hd0 : Wd (Z4 w) p W H tv bv bm ev := hd.kept (Turns.of_below (S := NoB) B0) id
  have hl0 : Bds (Z4 w) bv l := hl.kept (Turns.of_below (S := NoB) B0) (fun _ _ => id)
  have HM := hide (made_is hd0)
  have HI := hide (index_is (hd0.c 5) hl0 hs hlen hf)
  have FR : Four (Z4 w) w.heap.size 0 0 0 0 := cells4 (Below.refl _ _)
  clear hd0 hd hl hl0 hs
  go_enter Try.func15, Try.ntmps15
  go_wp2_with (first | (go_at_call 36; refine HM.out.mono ?_; rintro e w1 ⟨rfl, rfl⟩) | (go_at_call 39; refine HI.out.mono ?_; rintro e w2 ⟨rfl, hb2⟩; have F2 := FR.kept hb2; obtain ⟨⟨c0, c1, c2, c3⟩, ⟨g0, g1, g2, g3⟩, zz⟩ := F2))
  refine bodyPost_ret (v := .tuple #[rct 0 0 0 0, .bool false]) (by simp [results, Try.results15, go_sem, c0, c1, c2, c3]) rfl ⟨rfl, ?_⟩
  exact set4 (bt B0 hb2) (Nat.le_refl _)
set_option maxHeartbeats 1000000 in
theorem find_yes (p bm : Nat) (W H : Int) (tv bv ev : Value) (l : List Bd) (i : Int) (t : Bd) (w : World) (hd : Wd w p W H tv bv bm ev) (hl : Bds w bv l) (hs : Sorted l) (hlen : l.length ≤ 256) (hf : found l i = true) (ht : l[pos l i]? = some t) :
    Calls Try.prog 15 #[ptr p, .int .i64 i] w fun e w' => e = .returned (.tuple #[rct t.x t.y t.a t.b, .bool true]) ∧ Below w.heap.size w w' := by
  have B0 : Below w.heap.size w (Z4 w) := box1 _ _
  have hd0 : Wd (Z4 w) p W H tv bv bm ev := hd.kept (Turns.of_below (S := NoB) B0) id
  have hl0 : Bds (Z4 w) bv l := hl.kept (Turns.of_below (S := NoB) B0) (fun _ _ => id)
  have HM := hide (made_is hd0)
  have HI := hide (index_is (hd0.c 5) hl0 hs hlen hf)
  have FR : Four (Z4 w) w.heap.size 0 0 0 0 := cells4 (Below.refl _ _)
  obtain ⟨k, hk⟩ : ∃ k, pos l i = k := ⟨_, rfl⟩
  rw [hk] at ht HI
  have hkl : k < l.length := (List.getElem?_eq_some_iff.1 ht).1
  have hki : (k : Int) < (l.length : Nat) := by omega
  have hkw : (0 : Int) ≤ (k : Int) ∧ (k : Int) ≤ 256 := by omega
  have HK : Hid (∀ w2, Below (Z4 w).heap.size (Z4 w) w2 → ∃ g cap, bv = .slice (some ⟨g, 0, none⟩) l.length cap ∧ l.length ≤ cap ∧ cap ≤ maxLen ∧ w2.cell? ⟨p, 5, none⟩ = some (.slice (some ⟨g, 0, none⟩) l.length cap) ∧ g < w.heap.size ∧ w2.cell? ⟨g, k * 5 + 1, none⟩ = some (.int .i64 t.x) ∧ w2.cell? ⟨g, k * 5 + 2, none⟩ = some (.int .i64 t.y) ∧ w2.cell? ⟨g, k * 5 + 3, none⟩ = some (.int .i64 t.a) ∧ w2.cell? ⟨g, k * 5 + 4, none⟩ = some (.int .i64 t.b)) := hide fun w2 hb => by
    have k1 := hd0.kept (Turns.of_below (S := NoB) hb) id
    have k2 := hl0.kept (Turns.of_below (S := NoB) hb) (fun _ _ => id)
    obtain ⟨a, cap, rfl, h1, h2, hat⟩ := k2.form
    obtain ⟨g, rfl, hg, e0, e1, e2, e3, e4⟩ := hat k t ht
    exact ⟨g, cap, rfl, h1, h2, k1.c 5, (hl.lt g rfl).2, e1, e2, e3, e4⟩
  clear hd0 hd hl hl0 hs ht
  go_enter Try.func15, Try.ntmps15
  go_wp2_with (first | (go_at_call 36; refine HM.out.mono ?_; rintro e w1 ⟨rfl, rfl⟩) | (go_at_call 39; refine HI.out.mono ?_; rintro e w2 ⟨rfl, hb2⟩; obtain ⟨g, cap, rfl, m1, m2, c5, hg, e1, e2, e3, e4⟩ := HK.out w2 hb2; have F2 := FR.kept hb2; obtain ⟨⟨c0, c1, c2, c3⟩, ⟨g0, g1, g2, g3⟩, zz⟩ := F2))
  refine bodyPost_ret (v := .tuple #[rct t.x t.y t.a t.b, .bool true]) (by simp [results, Try.results15, go_sem, c0, c1, c2, c3]) rfl ⟨rfl, ?_⟩
  exact set4 (bt B0 hb2) (Nat.le_refl _)
set_option maxHeartbeats 1000000 in
theorem reffind_no (r : Nat) (W H : Int) (tv bv ev : Value) (l : List Bd) (i : Int) (w : World) (hd : Rd w r W H tv bv ev) (hl : Bds w bv l) (hs : Sorted l) (hlen : l.length ≤ 256) (hf : found l i = false) :
    Calls Try.prog 16 #[ptr r, .int .i64 i] w fun e w' => e = .returned (.tuple #[rct 0 0 0 0, .bool false]) ∧ Below w.heap.size w w' := by
  have B0 : Below w.heap.size w (Z4 w) := box1 _ _
  have hd0 : Rd (Z4 w) r W H tv bv ev := hd.kept (Turns.of_below (S := NoB) B0) id
  have hl0 : Bds (Z4 w) bv l := hl.kept (Turns.of_below (S := NoB) B0) (fun _ _ => id)
  have HI := hide (refplace_is hd0 hl0 hs hlen hf)
  obtain ⟨⟨c0, c1, c2, c3⟩, ⟨g0, g1, g2, g3⟩, zz⟩ : Four (Z4 w) w.heap.size 0 0 0 0 := cells4 (Below.refl _ _)
  clear hd0 hd hl hl0 hs
  go_enter Try.func16, Try.ntmps16
  go_wp2_with (go_at_call 40; refine HI.out.mono ?_; rintro e w1 ⟨rfl, rfl⟩)
  refine bodyPost_ret (v := .tuple #[rct 0 0 0 0, .bool false]) (by simp [results, Try.results16, go_sem, c0, c1, c2, c3]) rfl ⟨rfl, ?_⟩
  exact box1 _ _
set_option maxHeartbeats 1000000 in
theorem reffind_yes (r : Nat) (W H : Int) (tv bv ev : Value) (l : List Bd) (i : Int) (t : Bd) (w : World) (hd : Rd w r W H tv bv ev) (hl : Bds w bv l) (hs : Sorted l) (hlen : l.length ≤ 256) (hf : found l i = true) (ht : l[pos l i]? = some t) :
    Calls Try.prog 16 #[ptr r, .int .i64 i] w fun e w' => e = .returned (.tuple #[rct t.x t.y t.a t.b, .bool true]) ∧ Below w.heap.size w w' := by
  have B0 : Below w.heap.size w (Z4 w) := box1 _ _
  have hd0 : Rd (Z4 w) r W H tv bv ev := hd.kept (Turns.of_below (S := NoB) B0) id
  have hl0 : Bds (Z4 w) bv l := hl.kept (Turns.of_below (S := NoB) B0) (fun _ _ => id)
  have HI := hide (refplace_is hd0 hl0 hs hlen hf)
  obtain ⟨⟨c0, c1, c2, c3⟩, ⟨g0, g1, g2, g3⟩, zz⟩ : Four (Z4 w) w.heap.size 0 0 0 0 := cells4 (Below.refl _ _)
  obtain ⟨k, hk⟩ : ∃ k, pos l i = k := ⟨_, rfl⟩
  rw [hk] at ht HI
  simp only [if_true] at HI
  have hkl : k < l.length := (List.getElem?_eq_some_iff.1 ht).1
  have hki : (k : Int) < (l.length : Nat) := by omega
  have hkw : (0 : Int) ≤ (k : Int) ∧ (k : Int) ≤ 256 := by omega
  obtain ⟨a, cap, rfl, h1, h2, hat⟩ := hl0.form
  obtain ⟨g, rfl, hg, e0, e1, e2, e3, e4⟩ := hat k t ht
  have hgw := (hl.lt g rfl).2
  have c8 : (Z4 w).cell? ⟨r, 3, none⟩ = some (.slice (some ⟨g, 0, none⟩) l.length cap) := hd0.c 3
  clear hd0 hd hl hl0 hs ht hat
  go_enter Try.func16, Try.ntmps16
  go_wp2_with (go_at_call 40; refine HI.out.mono ?_; rintro e w1 ⟨rfl, rfl⟩)
  refine bodyPost_ret (v := .tuple #[rct t.x t.y t.a t.b, .bool true]) (by simp [results, Try.results16, go_sem]) rfl ⟨rfl, ?_⟩
  exact box1 _ _
end Go.Proofs.Ytobjadfchpgjeaa
