/-
  phalanxlaw04.Play: an edit in both worlds.
-/
import Derived.Test.YtobjadfchpgjeaaBo
import Derived.Test.YtobjadfchpgjeaaRefPlace
set_option linter.unusedSimpArgs false
namespace Go.Proofs.Ytobjadfchpgjeaa
open Go.RowKit
set_option linter.unusedVariables false
abbrev edV (z : Bool) (t : Bd) : Value := .agg #[.bool z, .int .i64 t.id, .int .i64 t.x, .int .i64 t.y, .int .i64 t.a, .int .i64 t.b]
abbrev boV (p r : Nat) : Value := .agg #[ptr p, ptr r]
/-- The two boxes of Play. -/
def PB (w : World) (h p r : Nat) (z : Bool) (t : Bd) : Prop :=
  w.heap[h]? = some (.cells #[ptr p, ptr r] 30 (0, 0)) ∧ w.heap[h + 1]? = some (.cells #[.bool z, .int .i64 t.id, .int .i64 t.x, .int .i64 t.y, .int .i64 t.a, .int .i64 t.b] 57 (0, 0))
theorem PB.turn {S : Nat → Prop} {w w' : World} {h p r : Nat} {z : Bool} {t : Bd} (q : PB w h p r z t) (T : Turns S w w') (h0 : ¬ S h) (h1 : ¬ S (h + 1)) : PB w' h p r z t := ⟨T.same h0 q.1, T.same h1 q.2⟩
theorem PB.kept {w w' : World} {h p r : Nat} {z : Bool} {t : Bd} (q : PB w h p r z t) (hb : Below w.heap.size w w') : PB w' h p r z t := q.turn (Turns.of_below (S := NoB) hb) id id
theorem PB.c {w : World} {h p r : Nat} {z : Bool} {t : Bd} (q : PB w h p r z t) : (w.cell? ⟨h, 0, none⟩ = some (ptr p) ∧ w.cell? ⟨h, 1, none⟩ = some (ptr r)) ∧ w.cell? ⟨h + 1, 0, none⟩ = some (.bool z) ∧ w.cell? ⟨h + 1, 1, none⟩ = some (.int .i64 t.id) ∧ w.cell? ⟨h + 1, 2, none⟩ = some (.int .i64 t.x) ∧ w.cell? ⟨h + 1, 3, none⟩ = some (.int .i64 t.y) ∧ w.cell? ⟨h + 1, 4, none⟩ = some (.int .i64 t.a) ∧ w.cell? ⟨h + 1, 5, none⟩ = some (.int .i64 t.b) :=
  ⟨⟨cell_of_row w h 0 _ _ _ q.1, cell_of_row w h 1 _ _ _ q.1⟩, cell_of_row w _ 0 _ _ _ q.2, cell_of_row w _ 1 _ _ _ q.2, cell_of_row w _ 2 _ _ _ q.2, cell_of_row w _ 3 _ _ _ q.2, cell_of_row w _ 4 _ _ _ q.2, cell_of_row w _ 5 _ _ _ q.2⟩
theorem PB.new (w : World) (p r : Nat) (z : Bool) (t : Bd) : PB ((w.alloc (.cells #[ptr p, ptr r] 30)).alloc (.cells #[.bool z, .int .i64 t.id, .int .i64 t.x, .int .i64 t.y, .int .i64 t.a, .int .i64 t.b] 57)) w.heap.size p r z t := by
  refine ⟨(Below.heap_alloc _ _ _ (by simp)).trans (heap_alloc_new w _), ?_⟩
  have := heap_alloc_new (w.alloc (.cells #[ptr p, ptr r] 30)) (.cells #[.bool z, .int .i64 t.id, .int .i64 t.x, .int .i64 t.y, .int .i64 t.a, .int .i64 t.b] 57)
  simpa using this
/-- What an edit leaves. -/
def Played (N : Nat) (w : World) (p r : Nat) (W H : Int) (tl : List Nat) (es : List Rc) (m : Nat) (w' : World) : Prop :=
  ∃ l' es' bm n tv bv ev rt rb re, BoAt N w' p r W H tl l' es' bm n tv bv ev rt rb re ∧ Fine W H l' ∧ es'.length ≤ es.length + 1 ∧ n ≤ m + 64 ∧ Below N w w'
theorem Four.blk {w w' : World} {k : Nat} {x y a b : Int} (h : Four w k x y a b) (e : w'.heap[k]? = w.heap[k]?) : Four w' k x y a b := by
  have hc := fun o => World.cell?_of_block (a := ⟨k, o, none⟩) e
  have hf := fun o => World.frozen?_of_block (a := ⟨k, o, none⟩) e
  have hl : k < w'.heap.size := by
    have : w.heap[k]? = some (w.heap[k]'h.2.2) := Array.getElem?_eq_getElem h.2.2
    exact (Array.getElem?_eq_some_iff.1 (e.trans this)).1
  exact ⟨⟨(hc 0).trans h.1.1, (hc 1).trans h.1.2.1, (hc 2).trans h.1.2.2.1, (hc 3).trans h.1.2.2.2⟩, ⟨(hf 0).trans h.2.1.1, (hf 1).trans h.2.1.2.1, (hf 2).trans h.2.1.2.2.1, (hf 3).trans h.2.1.2.2.2⟩, hl⟩
set_option maxRecDepth 100000 in
set_option maxHeartbeats 4000000 in
theorem play_raze_of (w : World) (p r : Nat) (t : Bd) (a b c d k : Int) (R : World → Prop)
    (HR : ∀ X, Below w.heap.size w X → X.heap.size = w.heap.size + 2 → PB X w.heap.size p r true t → Calls Try.prog 22 #[ptr p, .int .i64 t.id] X fun e w1 => e = .returned (.tuple #[rct a b c d, .int .i64 k]) ∧ PB w1 w.heap.size p r true t ∧ X.heap.size ≤ w1.heap.size ∧
      ∀ wx, Below w1.heap.size w1 wx → Calls Try.prog 48 #[ptr r, .int .i64 t.id] wx fun e w3 => e = .returned (.tuple #[rct a b c d, .int .i64 k]) ∧ (∀ q, X.heap.size ≤ q → q < wx.heap.size → w3.heap[q]? = wx.heap[q]?) ∧ ∀ wy, Below w3.heap.size w3 wy → R wy) :
    Calls Try.prog 24 #[boV p r, edV true t] w fun e w' => e = .returned (.bool true) ∧ R w' := by
  have B0 := box2 w (.cells #[ptr p, ptr r] 30) (.cells #[.bool true, .int .i64 t.id, .int .i64 t.x, .int .i64 t.y, .int .i64 t.a, .int .i64 t.b] 57)
  have P0 := PB.new w p r true t
  have z0 : ((w.alloc (.cells #[ptr p, ptr r] 30)).alloc (.cells #[.bool true, .int .i64 t.id, .int .i64 t.x, .int .i64 t.y, .int .i64 t.a, .int .i64 t.b] 57)).heap.size = w.heap.size + 2 := by simp
  obtain ⟨X, hX⟩ : ∃ X, (w.alloc (.cells #[ptr p, ptr r] 30)).alloc (.cells #[.bool true, .int .i64 t.id, .int .i64 t.x, .int .i64 t.y, .int .i64 t.a, .int .i64 t.b] 57) = X := ⟨_, rfl⟩
  rw [hX] at B0 P0 z0
  have H1 := hide (HR X B0 z0 P0)
  clear HR
  obtain ⟨⟨c0, c1⟩, d0, d1, d2, d3, d4, d5⟩ := P0.c
  go_enter Try.func24, Try.ntmps24
  go_wp2_with fail
  refine H1.out.mono ?_
  rintro e w1 ⟨rfl, P1, hz1, hk1⟩
  have HD := hide hk1
  have F2 : Four (w1.alloc (.cells #[.int .i64 a, .int .i64 b, .int .i64 c, .int .i64 d] 43)) w1.heap.size a b c d := cells4 (Below.refl _ _)
  have B2 : Below w1.heap.size w1 (w1.alloc (.cells #[.int .i64 a, .int .i64 b, .int .i64 c, .int .i64 d] 43)) := box1 _ _
  have z2 : (w1.alloc (.cells #[.int .i64 a, .int .i64 b, .int .i64 c, .int .i64 d] 43)).heap.size = w1.heap.size + 1 := by simp
  obtain ⟨w2, h2⟩ : ∃ w2, w1.alloc (.cells #[.int .i64 a, .int .i64 b, .int .i64 c, .int .i64 d] 43) = w2 := ⟨_, rfl⟩
  rw [h2] at F2 B2 z2
  have P2 := P1.kept B2
  clear hX c0 c1 d0 d1 d2 d3 d4 d5 H1 hk1
  obtain ⟨⟨c0, c1⟩, d0, d1, d2, d3, d4, d5⟩ := P2.c
  go_wp2_with fail
  refine (HD.out _ B2).mono ?_
  rintro e w3 ⟨rfl, hk3, hR3⟩
  have F3 : Four w3 w1.heap.size a b c d := F2.blk (hk3 _ hz1 (by omega))
  have HR3 := hide (hR3 _ (box1 w3 (.cells #[.int .i64 a, .int .i64 b, .int .i64 c, .int .i64 d] 43)))
  have G4 : Four (w3.alloc (.cells #[.int .i64 a, .int .i64 b, .int .i64 c, .int .i64 d] 43)) w3.heap.size a b c d := cells4 (Below.refl _ _)
  have F4 : Four (w3.alloc (.cells #[.int .i64 a, .int .i64 b, .int .i64 c, .int .i64 d] 43)) w1.heap.size a b c d := F3.kept (box1 _ _)
  obtain ⟨w4, h4⟩ : ∃ w4, w3.alloc (.cells #[.int .i64 a, .int .i64 b, .int .i64 c, .int .i64 d] 43) = w4 := ⟨_, rfl⟩
  rw [h4] at HR3 G4 F4
  obtain ⟨⟨g0, g1, g2, g3⟩, -, -⟩ := G4
  obtain ⟨⟨k0, k1, k2, k3⟩, -, -⟩ := F4
  clear h2 c0 c1 d0 d1 d2 d3 d4 d5 HD hR3 hk3
  go_wp2_with fail
  go_ret
  exact ⟨rfl, HR3.out⟩
theorem play_raze (N : Nat) (w : World) (p r : Nat) (W H : Int) (tl : List Nat) (l : List Bd) (es : List Rc) (bm n : Nat) (tv bv ev rt rb re : Value) (t : Bd) (h : BoAt N w p r W H tl l es bm n tv bv ev rt rb re) (hF : Fine W H l) (hN : N ≤ w.heap.size) (hes : (es.length + 1) * 32 ≤ 211106232532992) :
    Calls Try.prog 24 #[boV p r, edV true t] w fun e w' => e = .returned (.bool true) ∧ Played N w p r W H tl es n w' := by
  cases hf : found l t.id
  · refine play_raze_of w p r t 0 0 0 0 4 _ (fun X B0 z0 P0 => ?_)
    have HX := h.below B0
    refine (raze_no p bm W H tv bv ev l t.id X HX.d HX.b hF.sorted hF.len hf).mono ?_
    rintro e w1 ⟨rfl, hb1⟩
    refine ⟨rfl, P0.kept hb1, hb1.size, fun wx hx => ?_⟩
    have H1 := (HX.below hb1).below hx
    refine (refraze_no r W H rt rb re l t.id wx H1.d' H1.b' hF.sorted hF.len hf).mono ?_
    rintro e w3 ⟨rfl, hb3⟩
    refine ⟨rfl, fun q _ hq => hb3.block q hq, fun wy hy => ?_⟩
    exact ⟨l, es, bm, n, tv, bv, ev, rt, rb, re, (H1.below hb3).below hy, hF, by omega, by omega, (bt B0 (bt hb1 (bt hx (bt hb3 hy)))).mono hN⟩
  · obtain ⟨s, hs, -⟩ := (found_iff hF.sorted t.id).1 hf
    refine play_raze_of w p r t s.x s.y s.a s.b 0 _ (fun X B0 z0 P0 => ?_)
    have HX := h.below B0
    have l1 := h.d.lt
    have l2 := h.f.lt
    have l3 := h.d'.lt
    refine (raze_yes p bm n W H tv bv ev (whoF l) l es t.id s X HX.d HX.f HX.b HX.e hF.sorted hF.len hes hf hs).mono ?_
    rintro e w1 ⟨rfl, bv', ev', q1, q2, q3, q4, q5, q6, q7⟩
    rw [who_del hs hF.apart] at q3
    have low : ∀ q, (q = p ∨ q = bm ∨ bv.ownBlock = some q ∨ ev.ownBlock = some q) → q < w.heap.size := fun q hq => by
      rcases hq with e | e | e | e
      · omega
      · omega
      · exact (h.b.lt q e).2
      · exact (h.e.lt q e).2
    refine ⟨rfl, P0.turn q5 (fun hq => by have := low _ hq; omega) (fun hq => by have := low _ hq; omega), q5.size, fun wx hx => ?_⟩
    have TB : Turns NoB w1 wx := Turns.of_below hx
    have T1 : Turns (fun k => k = p ∨ k = bm ∨ bv.ownBlock = some k ∨ ev.ownBlock = some k) X wx := q5.trans (Turns.of_below hx)
    have doc := HX.doc T1
    have zx := T1.size
    refine (refraze_yes r W H rt rb re l es t.id s wx doc.1 doc.2.2.1 doc.2.2.2 hF.sorted hF.len hes hf hs).mono ?_
    rintro e w3 ⟨rfl, rb', re', u1, u2, u3, u4, u5, u6⟩
    have T2 : Turns (fun k => k = r ∨ rb.ownBlock = some k ∨ re.ownBlock = some k) wx w3 := u4.mono (fun k _ e => e.imp id Or.inr)
    have hXN : N ≤ X.heap.size := by omega
    have two := HX.two hXN (q1.kept TB id) (q2.kept TB (fun _ _ => id)) (q3.kept TB id) (q4.kept TB (fun _ _ => id)) T1 q6 q7 u1 u2 u3 T2 (fun k e => .inr (u5 k e)) u6
    refine ⟨rfl, fun q hq hl => u4.block q hl (fun e => ?_), fun wy hy => ?_⟩
    · rcases e with e | e
      · omega
      · have := (h.e'.lt q e).2; omega
    · have z3 := T2.size
      exact ⟨del l (pos l t.id), es ++ [s.foot], bm, n, tv, bv', ev', rt, rb', re', two.1.below hy, hF.del _, by simp, by omega, (B0.mono hN).trans (two.2.trans (hy.mono (by omega)))⟩
set_option maxRecDepth 100000 in
set_option maxHeartbeats 4000000 in
theorem play_place_of (w : World) (p r : Nat) (t : Bd) (c : Int) (R : World → Prop)
    (HM : ∀ X wx, Below w.heap.size w X → Below X.heap.size X wx → Calls Try.prog 28 #[ptr p, t.v] wx fun e w' => e = .returned (.int .i64 c) ∧ Below wx.heap.size wx w')
    (HN : ∀ X wx, Below w.heap.size w X → Below X.heap.size X wx → Calls Try.prog 49 #[ptr r, t.v] wx fun e w' => e = .returned (.int .i64 c) ∧ Below wx.heap.size wx w')
    (HP : ∀ X, Below w.heap.size w X → w.heap.size + 2 ≤ X.heap.size → PB X w.heap.size p r false t → Calls Try.prog 23 #[ptr p, t.v] X fun e w1 => e = .returned (.int .i64 c) ∧ PB w1 w.heap.size p r false t ∧
      Calls Try.prog 50 #[ptr r, t.v] w1 fun e w3 => e = .returned (.int .i64 c) ∧ PB w3 w.heap.size p r false t ∧ R w3) :
    Calls Try.prog 24 #[boV p r, edV false t] w fun e w' => e = .returned (.bool true) ∧ R w' := by
  have B0 := box2 w (.cells #[ptr p, ptr r] 30) (.cells #[.bool false, .int .i64 t.id, .int .i64 t.x, .int .i64 t.y, .int .i64 t.a, .int .i64 t.b] 57)
  have P0 := PB.new w p r false t
  have z0 : ((w.alloc (.cells #[ptr p, ptr r] 30)).alloc (.cells #[.bool false, .int .i64 t.id, .int .i64 t.x, .int .i64 t.y, .int .i64 t.a, .int .i64 t.b] 57)).heap.size = w.heap.size + 2 := by simp
  obtain ⟨X, hX⟩ : ∃ X, (w.alloc (.cells #[ptr p, ptr r] 30)).alloc (.cells #[.bool false, .int .i64 t.id, .int .i64 t.x, .int .i64 t.y, .int .i64 t.a, .int .i64 t.b] 57) = X := ⟨_, rfl⟩
  rw [hX] at B0 P0 z0
  have H1 := hide (HM X)
  have H2 := hide (HN X)
  have H3 : Hid (∀ wx, Below X.heap.size X wx → Calls Try.prog 23 #[ptr p, t.v] wx fun e w1 => e = .returned (.int .i64 c) ∧ PB w1 w.heap.size p r false t ∧ Calls Try.prog 50 #[ptr r, t.v] w1 fun e w3 => e = .returned (.int .i64 c) ∧ PB w3 w.heap.size p r false t ∧ R w3) := hide fun wx hx => HP wx (bt B0 hx) (by have := hx.size; omega) (P0.kept hx)
  have hS : ∀ wx, Below X.heap.size X wx → PB wx w.heap.size p r false t := fun wx hx => P0.kept hx
  clear HM HN HP
  obtain ⟨⟨c0, c1⟩, d0, d1, d2, d3, d4, d5⟩ := P0.c
  go_enter Try.func24, Try.ntmps24
  go_wp2_with fail
  clear hX c0 c1 d0 d1 d2 d3 d4 d5
  refine Code.wp_mono (Q := Only (fun a' w' => a' = { tmps := #[boV p r, edV false t, ptr w.heap.size, ptr (w.heap.size + 1), .bool true, undef, undef, undef, undef, .pointer (some ⟨w.heap.size + 1, 0, none⟩), .bool false, undef, undef, undef, undef, undef, undef, undef, undef, undef, undef, undef, undef, undef, undef, undef, undef, undef, undef, undef, undef, undef, undef, undef, undef, undef, undef, .pointer (some ⟨w.heap.size, 0, none⟩), ptr p, .pointer (some ⟨w.heap.size + 1, 1, none⟩), t.v, .int .i64 c, .pointer (some ⟨w.heap.size, 1, none⟩), ptr r, .pointer (some ⟨w.heap.size + 1, 1, none⟩), t.v, .int .i64 c, .bool true, .bool true, .pointer (some ⟨w.heap.size, 0, none⟩), ptr p, .pointer (some ⟨w.heap.size + 1, 1, none⟩), t.v, .int .i64 c, .pointer (some ⟨w.heap.size, 1, none⟩), ptr r, .pointer (some ⟨w.heap.size + 1, 1, none⟩), t.v, .int .i64 c, .bool true, .bool true], defers := [] } ∧ R w')) ?rest ?_
  case rest =>
    rintro (_ | _ | _ | _ | _) a' w' hO
    all_goals first | exact hO.elim | skip
    obtain ⟨rfl, hR⟩ := hO
    have HR := hide hR
    clear hR H1 H2 H3 hS
    go_wp2_with fail
    go_ret
    exact ⟨rfl, HR.out⟩
  refine wp_region_held_drew (S := fun wx => (wx.cell? ⟨w.heap.size, 0, none⟩ = some (ptr p) ∧ wx.cell? ⟨w.heap.size, 1, none⟩ = some (ptr r)) ∧ wx.cell? ⟨w.heap.size + 1, 0, none⟩ = some (.bool false) ∧ wx.cell? ⟨w.heap.size + 1, 1, none⟩ = some (.int .i64 t.id) ∧ wx.cell? ⟨w.heap.size + 1, 2, none⟩ = some (.int .i64 t.x) ∧ wx.cell? ⟨w.heap.size + 1, 3, none⟩ = some (.int .i64 t.y) ∧ wx.cell? ⟨w.heap.size + 1, 4, none⟩ = some (.int .i64 t.a) ∧ wx.cell? ⟨w.heap.size + 1, 5, none⟩ = some (.int .i64 t.b)) (by kernel_rfl) (hS _ (Below.refl _ _).drew).c (fun hHeld => ?_)
  refine wpAnyH_take (i := 0) (v := ?_) rfl (by kernel_rfl) (by kernel_rfl) (by kernel_rfl) (fun _ _ _ h => h.elim) (Or.inl ⟨by rfl, ?_⟩) (by assumption) ?_
  rotate_left
  · intro wx hSw
    try dsimp only at hSw
    go_simp
    try with_reducible rfl
  try simp only [Act.put, List.getElem_toArray, List.getElem_cons_zero, List.getElem_cons_succ, List.setIfInBounds_toArray, List.set_cons_zero, List.set_cons_succ]
  refine wpAnyH_take (i := 1) (v := ?_) rfl (by kernel_rfl) (by kernel_rfl) (by kernel_rfl) (fun _ _ _ h => h.elim) (Or.inl ⟨by rfl, ?_⟩) (by assumption) ?_
  rotate_left
  · intro wx hSw
    try dsimp only at hSw
    go_simp
    try with_reducible rfl
  try simp only [Act.put, List.getElem_toArray, List.getElem_cons_zero, List.getElem_cons_succ, List.setIfInBounds_toArray, List.set_cons_zero, List.set_cons_succ]
  refine wpAnyH_take (i := 2) (v := ?_) rfl (by kernel_rfl) (by kernel_rfl) (by kernel_rfl) (fun _ _ _ h => h.elim) (Or.inl ⟨by rfl, ?_⟩) (by assumption) ?_
  rotate_left
  · intro wx hSw
    try dsimp only at hSw
    go_simp
    try with_reducible rfl
  try simp only [Act.put, List.getElem_toArray, List.getElem_cons_zero, List.getElem_cons_succ, List.setIfInBounds_toArray, List.set_cons_zero, List.set_cons_succ]
  refine wpAnyH_take (i := 3) (v := ?_) rfl (by kernel_rfl) (by kernel_rfl) (by kernel_rfl) (fun _ _ _ h => h.elim) (Or.inl ⟨by rfl, ?_⟩) (by assumption) ?_
  rotate_left
  · intro wx hSw
    try dsimp only at hSw
    go_simp
    try with_reducible rfl
  try simp only [Act.put, List.getElem_toArray, List.getElem_cons_zero, List.getElem_cons_succ, List.setIfInBounds_toArray, List.set_cons_zero, List.set_cons_succ]
  refine wpAnyH_take (i := 5) (v := ?_) rfl (by kernel_rfl) (by kernel_rfl) (by kernel_rfl) (fun _ _ _ h => h.elim) (Or.inl ⟨by rfl, ?_⟩) (by assumption) ?_
  rotate_left
  · intro wx hSw
    try dsimp only at hSw
    go_simp
    try with_reducible rfl
  try simp only [Act.put, List.getElem_toArray, List.getElem_cons_zero, List.getElem_cons_succ, List.setIfInBounds_toArray, List.set_cons_zero, List.set_cons_succ]
  refine wpAnyH_take (i := 6) (v := ?_) rfl (by kernel_rfl) (by kernel_rfl) (by kernel_rfl) (fun _ _ _ h => h.elim) (Or.inl ⟨by rfl, ?_⟩) (by assumption) ?_
  rotate_left
  · intro wx hSw
    try dsimp only at hSw
    go_simp
    try with_reducible rfl
  try simp only [Act.put, List.getElem_toArray, List.getElem_cons_zero, List.getElem_cons_succ, List.setIfInBounds_toArray, List.set_cons_zero, List.set_cons_succ]
  refine wpAnyH_take (i := 7) (v := ?_) rfl (by kernel_rfl) (by kernel_rfl) (by kernel_rfl) (fun _ _ _ h => h.elim) (Or.inl ⟨by rfl, ?_⟩) (by assumption) ?_
  rotate_left
  · intro wx hSw
    try dsimp only at hSw
    go_simp
    try with_reducible rfl
  try simp only [Act.put, List.getElem_toArray, List.getElem_cons_zero, List.getElem_cons_succ, List.setIfInBounds_toArray, List.set_cons_zero, List.set_cons_succ]
  refine wpAnyH_take (i := 8) (v := ?_) rfl (by kernel_rfl) (by kernel_rfl) (by kernel_rfl) (fun _ _ _ h => h.elim) (Or.inl ⟨by rfl, ?_⟩) (by assumption) ?_
  rotate_left
  · intro wx hSw
    try dsimp only at hSw
    go_simp
    try with_reducible rfl
  try simp only [Act.put, List.getElem_toArray, List.getElem_cons_zero, List.getElem_cons_succ, List.setIfInBounds_toArray, List.set_cons_zero, List.set_cons_succ]
  refine wpAnyH_ready (rs := [4]) (by kernel_rfl) (by simp) ?_
  refine AllReadyH.cons rfl (fun K hK => ?_) ?_
  · go_simp
    refine (H1.out _ B0 (Below.refl _ _).drew).mono ?_
    rintro e v1 ⟨rfl, hb1⟩
    have hX1 : Below X.heap.size X v1 := below_undrew hb1
    clear hb1
    try go_wp2_with fail
    refine hK.out _ _ ?_ (fun hHeld => ?_)
    · first | exact (hS _ (Below.refl _ _).drew).c | exact (hS _ hX1).c | exact (hS _ hX2).c | exact hP3.c | exact hP4.c
    clear hK K
    try simp only [Act.put, List.getElem_toArray, List.getElem_cons_zero, List.getElem_cons_succ, List.setIfInBounds_toArray, List.set_cons_zero, List.set_cons_succ]
    refine wpAnyH_ready (rs := [9]) (by kernel_rfl) (by simp) ?_
    refine AllReadyH.cons rfl (fun K hK => ?_) ?_
    · go_simp
      refine (H2.out _ B0 hX1).mono ?_
      rintro e v2 ⟨rfl, hb2⟩
      have hX2 : Below X.heap.size X v2 := bt hX1 hb2
      clear hb2
      try go_wp2_with fail
      refine hK.out _ _ ?_ (fun hHeld => ?_)
      · first | exact (hS _ (Below.refl _ _).drew).c | exact (hS _ hX1).c | exact (hS _ hX2).c | exact hP3.c | exact hP4.c
      clear hK K
      try simp only [Act.put, List.getElem_toArray, List.getElem_cons_zero, List.getElem_cons_succ, List.setIfInBounds_toArray, List.set_cons_zero, List.set_cons_succ]
      refine wpAnyH_take (i := 10) (v := ?_) rfl (by kernel_rfl) (by kernel_rfl) (by kernel_rfl) (fun _ _ _ h => h.elim) (Or.inl ⟨by rfl, ?_⟩) (by assumption) ?_
      rotate_left
      · intro wx hSw
        try dsimp only at hSw
        go_simp
        try with_reducible rfl
      try simp only [Act.put, List.getElem_toArray, List.getElem_cons_zero, List.getElem_cons_succ, List.setIfInBounds_toArray, List.set_cons_zero, List.set_cons_succ]
      refine wpAnyH_take (i := 11) (v := ?_) rfl (by kernel_rfl) (by kernel_rfl) (by kernel_rfl) (fun _ _ _ h => h.elim) (Or.inl ⟨by rfl, ?_⟩) (by assumption) ?_
      rotate_left
      · intro wx hSw
        try dsimp only at hSw
        go_simp
        try with_reducible rfl
      try simp only [Act.put, List.getElem_toArray, List.getElem_cons_zero, List.getElem_cons_succ, List.setIfInBounds_toArray, List.set_cons_zero, List.set_cons_succ]
      refine wpAnyH_take (i := 12) (v := ?_) rfl (by kernel_rfl) (by kernel_rfl) (by kernel_rfl) (fun _ _ _ h => h.elim) (Or.inl ⟨by rfl, ?_⟩) (by assumption) ?_
      rotate_left
      · intro wx hSw
        try dsimp only at hSw
        go_simp
        try with_reducible rfl
      try simp only [Act.put, List.getElem_toArray, List.getElem_cons_zero, List.getElem_cons_succ, List.setIfInBounds_toArray, List.set_cons_zero, List.set_cons_succ]
      refine wpAnyH_take (i := 13) (v := ?_) rfl (by kernel_rfl) (by kernel_rfl) (by kernel_rfl) (fun _ _ _ h => h.elim) (Or.inl ⟨by rfl, ?_⟩) (by assumption) ?_
      rotate_left
      · intro wx hSw
        try dsimp only at hSw
        go_simp
        try with_reducible rfl
      try simp only [Act.put, List.getElem_toArray, List.getElem_cons_zero, List.getElem_cons_succ, List.setIfInBounds_toArray, List.set_cons_zero, List.set_cons_succ]
      refine wpAnyH_take (i := 14) (v := ?_) rfl (by kernel_rfl) (by kernel_rfl) (by kernel_rfl) (fun _ _ _ h => h.elim) (Or.inl ⟨by rfl, ?_⟩) (by assumption) ?_
      rotate_left
      · intro wx hSw
        try dsimp only at hSw
        go_simp
        try with_reducible rfl
      try simp only [Act.put, List.getElem_toArray, List.getElem_cons_zero, List.getElem_cons_succ, List.setIfInBounds_toArray, List.set_cons_zero, List.set_cons_succ]
      refine wpAnyH_take (i := 15) (v := ?_) rfl (by kernel_rfl) (by kernel_rfl) (by kernel_rfl) (fun _ _ _ h => h.elim) (Or.inl ⟨by rfl, ?_⟩) (by assumption) ?_
      rotate_left
      · intro wx hSw
        try dsimp only at hSw
        go_simp
        try with_reducible rfl
      try simp only [Act.put, List.getElem_toArray, List.getElem_cons_zero, List.getElem_cons_succ, List.setIfInBounds_toArray, List.set_cons_zero, List.set_cons_succ]
      refine wpAnyH_take (i := 17) (v := ?_) rfl (by kernel_rfl) (by kernel_rfl) (by kernel_rfl) (fun _ _ _ h => h.elim) (Or.inl ⟨by rfl, ?_⟩) (by assumption) ?_
      rotate_left
      · intro wx hSw
        try dsimp only at hSw
        go_simp
        try with_reducible rfl
      try simp only [Act.put, List.getElem_toArray, List.getElem_cons_zero, List.getElem_cons_succ, List.setIfInBounds_toArray, List.set_cons_zero, List.set_cons_succ]
      refine wpAnyH_take (i := 18) (v := ?_) rfl (by kernel_rfl) (by kernel_rfl) (by kernel_rfl) (fun _ _ _ h => h.elim) (Or.inl ⟨by rfl, ?_⟩) (by assumption) ?_
      rotate_left
      · intro wx hSw
        try dsimp only at hSw
        go_simp
        try with_reducible rfl
      try simp only [Act.put, List.getElem_toArray, List.getElem_cons_zero, List.getElem_cons_succ, List.setIfInBounds_toArray, List.set_cons_zero, List.set_cons_succ]
      refine wpAnyH_take (i := 19) (v := ?_) rfl (by kernel_rfl) (by kernel_rfl) (by kernel_rfl) (fun _ _ _ h => h.elim) (Or.inl ⟨by rfl, ?_⟩) (by assumption) ?_
      rotate_left
      · intro wx hSw
        try dsimp only at hSw
        go_simp
        try with_reducible rfl
      try simp only [Act.put, List.getElem_toArray, List.getElem_cons_zero, List.getElem_cons_succ, List.setIfInBounds_toArray, List.set_cons_zero, List.set_cons_succ]
      refine wpAnyH_take (i := 20) (v := ?_) rfl (by kernel_rfl) (by kernel_rfl) (by kernel_rfl) (fun _ _ _ h => h.elim) (Or.inl ⟨by rfl, ?_⟩) (by assumption) ?_
      rotate_left
      · intro wx hSw
        try dsimp only at hSw
        go_simp
        try with_reducible rfl
      try simp only [Act.put, List.getElem_toArray, List.getElem_cons_zero, List.getElem_cons_succ, List.setIfInBounds_toArray, List.set_cons_zero, List.set_cons_succ]
      refine wpAnyH_ready (rs := [16]) (by kernel_rfl) (by simp) ?_
      refine AllReadyH.cons rfl (fun K hK => ?_) ?_
      · go_simp
        refine (H3.out _ hX2).mono ?_
        rintro e v3 ⟨rfl, hP3, hC⟩
        have H4 := hide hC
        clear hC
        try go_wp2_with fail
        refine hK.out _ _ ?_ (fun hHeld => ?_)
        · first | exact (hS _ (Below.refl _ _).drew).c | exact (hS _ hX1).c | exact (hS _ hX2).c | exact hP3.c | exact hP4.c
        clear hK K
        try simp only [Act.put, List.getElem_toArray, List.getElem_cons_zero, List.getElem_cons_succ, List.setIfInBounds_toArray, List.set_cons_zero, List.set_cons_succ]
        refine wpAnyH_ready (rs := [21]) (by kernel_rfl) (by simp) ?_
        refine AllReadyH.cons rfl (fun K hK => ?_) ?_
        · go_simp
          refine H4.out.mono ?_
          rintro e v4 ⟨rfl, hP4, hR4⟩
          have HR4 := hide hR4
          clear hR4
          try go_wp2_with fail
          refine hK.out _ _ ?_ (fun hHeld => ?_)
          · first | exact (hS _ (Below.refl _ _).drew).c | exact (hS _ hX1).c | exact (hS _ hX2).c | exact hP3.c | exact hP4.c
          clear hK K
          try simp only [Act.put, List.getElem_toArray, List.getElem_cons_zero, List.getElem_cons_succ, List.setIfInBounds_toArray, List.set_cons_zero, List.set_cons_succ]
          refine wpAnyH_take (i := 22) (v := ?_) rfl (by kernel_rfl) (by kernel_rfl) (by kernel_rfl) (fun _ _ _ h => h.elim) (Or.inl ⟨by rfl, ?_⟩) (by assumption) ?_
          rotate_left
          · intro wx hSw
            try dsimp only at hSw
            go_simp
            try with_reducible rfl
          try simp only [Act.put, List.getElem_toArray, List.getElem_cons_zero, List.getElem_cons_succ, List.setIfInBounds_toArray, List.set_cons_zero, List.set_cons_succ]
          refine wpAnyH_take (i := 23) (v := ?_) rfl (by kernel_rfl) (by kernel_rfl) (by kernel_rfl) (fun _ _ _ h => h.elim) (Or.inl ⟨by rfl, ?_⟩) (by assumption) ?_
          rotate_left
          · intro wx hSw
            try dsimp only at hSw
            go_simp
            try with_reducible rfl
          try simp only [Act.put, List.getElem_toArray, List.getElem_cons_zero, List.getElem_cons_succ, List.setIfInBounds_toArray, List.set_cons_zero, List.set_cons_succ]
          refine wpAnyH_take (i := 24) (v := ?_) rfl (by kernel_rfl) (by kernel_rfl) (by kernel_rfl) (fun _ _ _ h => h.elim) (Or.inl ⟨by rfl, ?_⟩) (by assumption) ?_
          rotate_left
          · intro wx hSw
            try dsimp only at hSw
            go_simp
            try with_reducible rfl
          try simp only [Act.put, List.getElem_toArray, List.getElem_cons_zero, List.getElem_cons_succ, List.setIfInBounds_toArray, List.set_cons_zero, List.set_cons_succ]
          refine wpAnyH_done (by kernel_rfl) ?_ _
          exact ⟨rfl, HR4.out⟩
        exact AllReadyH.nil
      exact AllReadyH.nil
    exact AllReadyH.nil
  exact AllReadyH.nil
end Go.Proofs.Ytobjadfchpgjeaa
