/-
  Raze of a building that stands.
-/
import Derived.Test.YtobjadfchpgjeaaRaze
namespace Go.Proofs.Ytobjadfchpgjeaa
open Go.RowKit Go.Shelf
set_option linter.unusedVariables false
attribute [local go_sem] Oper.semAt_some
theorem Four.turn {S : Nat → Prop} {w w' : World} {k : Nat} {x y a b : Int} (h : Four w k x y a b) (ht : Turns S w w') (hs : ¬ S k) : Four w' k x y a b :=
  ⟨⟨ht.cell hs h.1.1, ht.cell hs h.1.2.1, ht.cell hs h.1.2.2.1, ht.cell hs h.1.2.2.2⟩,
   ⟨(World.frozen?_of_block (ht.block k h.2.2 hs)).trans h.2.1.1, (World.frozen?_of_block (ht.block k h.2.2 hs)).trans h.2.1.2.1, (World.frozen?_of_block (ht.block k h.2.2 hs)).trans h.2.1.2.2.1, (World.frozen?_of_block (ht.block k h.2.2 hs)).trans h.2.1.2.2.2⟩, Nat.lt_of_lt_of_le h.2.2 ht.size⟩
theorem Four.set {w : World} {b : Nat} {u v s t : Int} (h : Four w b u v s t) (x y a c : Int) : Four ((((w.setCell ⟨b, 0, none⟩ (.int .i64 x)).setCell ⟨b, 1, none⟩ (.int .i64 y)).setCell ⟨b, 2, none⟩ (.int .i64 a)).setCell ⟨b, 3, none⟩ (.int .i64 c)) b x y a c := by
  obtain ⟨⟨h0, h1, h2, h3⟩, ⟨f0, f1, f2, f3⟩, hz⟩ := h
  refine ⟨⟨?_, ?_, ?_, ?_⟩, ⟨?_, ?_, ?_, ?_⟩, ?_⟩
  · simp [go_sem, h0]
  · simp [go_sem, h1]
  · simp [go_sem, h2]
  · simp [go_sem, h3]
  · simpa [go_sem] using f0
  · simpa [go_sem] using f1
  · simpa [go_sem] using f2
  · simpa [go_sem] using f3
  · simpa using hz
set_option maxRecDepth 100000 in
set_option maxHeartbeats 4000000 in
theorem raze_yes (p bm n : Nat) (W_ H : Int) (tv bv ev : Value) (f : Int → Int → Option Int) (l : List Bd) (es : List Rc) (i : Int) (t : Bd) (w : World) (hd : Wd w p W_ H tv bv bm ev) (hw : Who w bm n f) (hl : Bds w bv l) (he : Rcs w ev es) (hs : Sorted l) (hlen : l.length ≤ 256) (hes : (es.length + 1) * 32 ≤ 211106232532992) (hf : found l i = true) (ht : l[pos l i]? = some t) :
    Calls Try.prog 22 #[ptr p, .int .i64 i] w fun e w' => e = .returned (.tuple #[rct t.x t.y t.a t.b, .int .i64 0]) ∧ Razed w p bm n W_ H tv bv ev f l es (pos l i) t w' := by
  refine (callsIn_wide (n := 10)).1 ?_
  refine callsIn_of_wp_marks Try.func22 rfl trivial ?_ rfl
  simp only [Try.ntmps22, List.size_toArray, List.length_cons, List.length_nil, Nat.reduceAdd, Nat.reduceSub, Array.replicate_succ, Array.replicate_zero, List.push_toArray, List.append_toArray, List.nil_append, List.cons_append]
  have B0 : Below w.heap.size w ((w.alloc (.cells #[ptr p] 27)).alloc (.cells #[.int .i64 0, .int .i64 0, .int .i64 0, .int .i64 0] 43)) := box2 _ _ _
  have T0 : Turns NoB w ((w.alloc (.cells #[ptr p] 27)).alloc (.cells #[.int .i64 0, .int .i64 0, .int .i64 0, .int .i64 0] 43)) := Turns.of_below B0
  have hd0 := hd.kept T0 id
  have hl0 := hl.kept T0 (fun _ _ => id)
  have HM := hide (made_is hd0)
  have HI := hide (index_is (hd0.c 5) hl0 hs hlen hf)
  have FR : Four ((w.alloc (.cells #[ptr p] 27)).alloc (.cells #[.int .i64 0, .int .i64 0, .int .i64 0, .int .i64 0] 43)) (w.heap.size + 1) 0 0 0 0 := cells4'' (Below.refl _ _)
  have PR : Boxed ((w.alloc (.cells #[ptr p] 27)).alloc (.cells #[.int .i64 0, .int .i64 0, .int .i64 0, .int .i64 0] 43)) w.heap.size 27 (ptr p) := (Boxed.new w 27 (ptr p)).alloc _
  have hp0 := hd.lt
  have hb0 := hw.lt
  have hrow := fun k e => (hl.lt k e).2
  have hrowe := fun k e => (he.lt k e).2
  have hpb := hd.ne_map hw
  obtain ⟨k, hk⟩ : ∃ k, pos l i = k := ⟨_, rfl⟩
  rw [hk] at ht HI ⊢
  have hkl : k < l.length := (List.getElem?_eq_some_iff.1 ht).1
  obtain ⟨a, cap, rfl, hcap, hmax, hat⟩ := hl.form
  obtain ⟨g, rfl, hg0, -⟩ := hat k t ht
  have key : ∀ w1, Below (((w.alloc (.cells #[ptr p] 27)).alloc (.cells #[.int .i64 0, .int .i64 0, .int .i64 0, .int .i64 0] 43))).heap.size ((w.alloc (.cells #[ptr p] 27)).alloc (.cells #[.int .i64 0, .int .i64 0, .int .i64 0, .int .i64 0] 43)) w1 → Wd w1 p W_ H tv (.slice (some ⟨g, 0, none⟩) l.length cap) bm ev ∧ Who w1 bm n f ∧ Bds w1 (.slice (some ⟨g, 0, none⟩) l.length cap) l ∧ Boxed w1 w.heap.size 27 (ptr p) ∧ Rcs w1 ev es ∧ Four w1 (w.heap.size + 1) 0 0 0 0 ∧ Turns NoB w w1 := fun w1 hb => by
    have T : Turns NoB ((w.alloc (.cells #[ptr p] 27)).alloc (.cells #[.int .i64 0, .int .i64 0, .int .i64 0, .int .i64 0] 43)) w1 := Turns.of_below hb
    exact ⟨hd0.kept T id, (hw.kept T0 id).kept T id, hl0.kept T (fun _ _ => id), boxed_kept PR T id, (he.kept T0 (fun _ _ => id)).kept T (fun _ _ => id), FR.kept hb, Turns.of_below (bt B0 hb)⟩
  have HK := hide key
  have hki : (k : Int) < (l.length : Nat) := by omega
  have hkw : (0 : Int) ≤ (k : Int) ∧ (k : Int) ≤ 256 := by omega
  have hw1 : IntKind.i64.wrap ((k : Int) + 1) = (k : Int) + 1 := by rw [IntKind.wrap_i64]; omega
  clear key hd0 hl0 hs T0 hf hk hat PR FR hg0
  gi_wp2_with (refine ⟨trivial, ?_⟩; gi_at_call 36; refine (callsIn_wide.2 HM.out).mono ?_; rintro e w1 ⟨rfl, rfl⟩)
  refine ⟨trivial, ?_⟩
  refine (callsIn_wide.2 HI.out).mono ?_
  rintro e w2 ⟨rfl, hb2⟩
  obtain ⟨k1, k2, k3, k4, k5, k6, k7⟩ := HK.out w2 hb2
  have c0 := k4.cell
  have c5 : w2.cell? ⟨p, 5, none⟩ = some (.slice (some ⟨g, 0, none⟩) l.length cap) := k1.c 5
  obtain ⟨e1, e2, e3, e4, hz2⟩ : w2.cell? ⟨g, k * 5 + 1, none⟩ = some (.int .i64 t.x) ∧ w2.cell? ⟨g, k * 5 + 2, none⟩ = some (.int .i64 t.y) ∧ w2.cell? ⟨g, k * 5 + 3, none⟩ = some (.int .i64 t.a) ∧ w2.cell? ⟨g, k * 5 + 4, none⟩ = some (.int .i64 t.b) ∧ w.heap.size + 1 < w2.heap.size := by
    obtain ⟨a', cap', he', _, _, hform⟩ := k3.form
    obtain ⟨g', hgg, _, _, q1, q2, q3, q4⟩ := hform k t ht
    rw [hgg] at he'
    injection he' with h1 h2 h3
    injection h1 with h1
    injection h1 with h1
    subst h1
    exact ⟨q1, q2, q3, q4, k6.2.2⟩
  have F8 : Four (w2.alloc (.cells #[.int .i64 t.x, .int .i64 t.y, .int .i64 t.a, .int .i64 t.b] 43)) w2.heap.size t.x t.y t.a t.b := cells4 (Below.refl _ _)
  clear HM HI HK
  gi_wp2_with fail
  have T8 : Turns NoB w2 (w2.alloc (.cells #[.int .i64 t.x, .int .i64 t.y, .int .i64 t.a, .int .i64 t.b] 43)) := Turns.of_below (box1 _ _)
  have d1 := k1.kept T8 id
  have d2 := k2.kept T8 id
  have d3 := k3.kept T8 (fun _ _ => id)
  have d4 := boxed_kept k4 T8 id
  have d5 := k5.kept T8 (fun _ _ => id)
  have d6 := k6.turn T8 id
  have hz3 : (w2.alloc (.cells #[.int .i64 t.x, .int .i64 t.y, .int .i64 t.a, .int .i64 t.b] 43)).heap.size = w2.heap.size + 1 := by simp
  have TT3 : Turns NoB w (w2.alloc (.cells #[.int .i64 t.x, .int .i64 t.y, .int .i64 t.a, .int .i64 t.b] 43)) := k7.trans (T8.mono (fun _ _ h => h.elim))
  obtain ⟨w3, hw3e⟩ : ∃ w3, w2.alloc (.cells #[.int .i64 t.x, .int .i64 t.y, .int .i64 t.a, .int .i64 t.b] 43) = w3 := ⟨_, rfl⟩
  rw [hw3e] at F8 d1 d2 d3 d4 d5 d6 hz3 TT3 ⊢
  clear hw3e T8 k1 k2 k3 k4 k5 k6 k7 c0 c5 e1 e2 e3 e4
  have hgw : g < w.heap.size := hrow g rfl
  have hgp : g ≠ p := fun e => d1.ne_row d3 (by decide) (by rw [← e]; rfl)
  have hgb : g ≠ bm := fun e => row_ne_map d3 d2 (by rw [← e]; rfl)
  have HD := hide (del_any l g cap k w3.drew d3 hlen hkl)
  have hT4 : ∀ {wx : World}, w3.drew.grownBy wx (some g) → Turns (fun j => j = g) w3 wx := fun {wx} hg => (Turns.of_grown (w := w3.drew) hg (fun j e => by cases e; rfl)).undrew
  have hS0 : w3.cell? ⟨w.heap.size, 0, none⟩ = some (ptr p) := d4.cell
  have hS2 : ∀ {wx : World}, w3.drew.grownBy wx (some g) → wx.cell? ⟨w.heap.size, 0, none⟩ = some (ptr p) := fun {wx} hg => (boxed_kept d4 (hT4 hg) (by omega)).cell
  have hS3 : ∀ {wx : World} {v : Value}, w3.drew.grownBy wx (some g) → (wx.setCell ⟨p, 5, none⟩ v).cell? ⟨w.heap.size, 0, none⟩ = some (ptr p) := fun {wx v} hg =>
    (boxed_kept (boxed_kept d4 (hT4 hg) (by omega)) (Turns.set (S := fun j => j = p) wx (p := ⟨p, 5, none⟩) rfl v) (by omega)).cell
  have c5 : w3.cell? ⟨p, 5, none⟩ = some (.slice (some ⟨g, 0, none⟩) l.length cap) := d1.c 5
  have hW4 : ∀ {wx : World}, w3.drew.grownBy wx (some g) → Wd wx p W_ H tv (.slice (some ⟨g, 0, none⟩) l.length cap) bm ev := fun {wx} hg => d1.kept (hT4 hg) (fun e => hgp e.symm)
  refine wpIn_wide.2 ?_
  refine Code.wp_mono (Q := Only (fun a' w' => ∃ w4, a' = { tmps := #[ptr p, .int .i64 i, ptr w.heap.size, undef, ptr (w.heap.size + 1), .int .i64 0, .int .i64 (k : Nat), .bool true, ptr w2.heap.size, undef, ptr p, .bool true, .bool false, undef, .tuple #[.int .i64 (k : Nat), .bool true], ptr p, .int .i64 i, .tuple #[.int .i64 (k : Nat), .bool true], .int .i64 (k : Nat), .bool true, .bool true, .bool false, undef, ptr p, ptr p, .pointer (some ⟨p, 5, none⟩), .slice (some ⟨g, 0, none⟩) l.length cap, .int .i64 (k : Nat), .pointer (some ⟨g, k * 5, none⟩), .pointer (some ⟨g, k * 5 + 1, none⟩), rct t.x t.y t.a t.b, ptr p, ptr p, ptr p, .pointer (some ⟨p, 5, none⟩), .slice (some ⟨g, 0, none⟩) l.length cap, .int .i64 (k : Nat), .int .i64 (k : Nat), .int .i64 ((k : Int) + 1), .slice (some ⟨g, 0, none⟩) (l.length - 1) cap, ptr p, .pointer (some ⟨p, 5, none⟩), undef, undef, undef, undef, undef, undef, undef, undef, undef, undef, undef, undef, undef, undef, undef, undef, undef, undef, undef], defers := [] } ∧ w' = w4.setCell ⟨p, 5, none⟩ (.slice (some ⟨g, 0, none⟩) (l.length - 1) cap) ∧ Bds w4 (.slice (some ⟨g, 0, none⟩) (l.length - 1) cap) (del l k) ∧ w3.drew.grownBy w4 (some g))) ?rest ?_
  case rest =>
    rintro (_ | _ | _ | _ | _) a' w' hO
    all_goals first | exact hO.elim | skip
    obtain ⟨w4, rfl, rfl, hb4, hg4⟩ := hO
    have T4 := hT4 hg4
    have hd4 := hW4 hg4
    have TS : Turns (fun j => j = p) w4 (w4.setCell ⟨p, 5, none⟩ (.slice (some ⟨g, 0, none⟩) (l.length - 1) cap)) := Turns.set (S := fun j => j = p) w4 (p := ⟨p, 5, none⟩) rfl _
    have s1 := hd4.set5 (.slice (some ⟨g, 0, none⟩) (l.length - 1) cap)
    have s2 := (d2.kept T4 (fun e => hgb e.symm)).kept TS hpb
    have s3 := hb4.kept TS (fun j e h => by subst h; exact hd4.ne_row hb4 (by decide) e)
    have s4 := boxed_kept (boxed_kept d4 T4 (by omega)) TS (by omega)
    have s5 := (d5.kept T4 (fun j e h => by subst h; exact rows_ne d5 d3 (by decide) e rfl)).kept TS (fun j e h => by subst h; exact d1.ne_row d5 (by decide) e)
    have s6 := (d6.turn T4 (by omega)).turn TS (by omega)
    have s8 := (F8.turn T4 (by omega)).turn TS (by omega)
    have TT5 : Turns (fun j => j = p ∨ j = g) w (w4.setCell ⟨p, 5, none⟩ (.slice (some ⟨g, 0, none⟩) (l.length - 1) cap)) := ((TT3.mono (fun _ _ h => h.elim)).trans (T4.mono (fun j _ h => .inl (.inr h)))).trans (TS.mono (fun j _ h => .inl (.inl h)))
    have hz5 : w2.heap.size + 1 ≤ (w4.setCell ⟨p, 5, none⟩ (.slice (some ⟨g, 0, none⟩) (l.length - 1) cap)).heap.size := by have := T4.size; have := TS.size; omega
    obtain ⟨w5, hw5e⟩ : ∃ w5, w4.setCell ⟨p, 5, none⟩ (.slice (some ⟨g, 0, none⟩) (l.length - 1) cap) = w5 := ⟨_, rfl⟩
    rw [hw5e] at s1 s2 s3 s4 s5 s6 s8 TT5 hz5 ⊢
    clear hw5e TS T4 hd4 d1 d2 d3 d4 d5 d6 F8 TT3 hS0 hS2 hS3 c5 hW4 hT4 HD hb4 hg4
    obtain ⟨⟨c0, c1, c2, c3⟩, _, zz⟩ := id s8
    gi_wp2_with fail
    refine ⟨trivial, ?_⟩
    refine (callsIn_wide.2 (cells_any _ _ _ _ _)).mono ?_
    rintro e w6' ⟨rfl, rfl⟩
    gi_wp2_with fail
    have TA : Turns NoB w5 (w5.alloc (.cells #[.int .i64 t.x, .int .i64 t.y, .int .i64 t.a, .int .i64 t.b] 43)) := Turns.of_below (box1 _ _)
    have FB : Four (w5.alloc (.cells #[.int .i64 t.x, .int .i64 t.y, .int .i64 t.a, .int .i64 t.b] 43)) w5.heap.size t.x t.y t.a t.b := cells4 (Below.refl _ _)
    have u1 := s1.kept TA id
    have u2 := s2.kept TA id
    have u3 := s3.kept TA (fun _ _ => id)
    have u4 := boxed_kept s4 TA id
    have u5 := s5.kept TA (fun _ _ => id)
    have u6 := s6.turn TA id
    have u8 := s8.turn TA id
    have hz6 : (w5.alloc (.cells #[.int .i64 t.x, .int .i64 t.y, .int .i64 t.a, .int .i64 t.b] 43)).heap.size = w5.heap.size + 1 := by simp
    have TT6 : Turns (fun j => j = p ∨ j = g) w (w5.alloc (.cells #[.int .i64 t.x, .int .i64 t.y, .int .i64 t.a, .int .i64 t.b] 43)) := TT5.trans (TA.mono (fun _ _ h => h.elim))
    obtain ⟨w6, hw6e⟩ : ∃ w6, w5.alloc (.cells #[.int .i64 t.x, .int .i64 t.y, .int .i64 t.a, .int .i64 t.b] 43) = w6 := ⟨_, rfl⟩
    rw [hw6e] at FB u1 u2 u3 u4 u5 u6 u8 hz6 TT6 ⊢
    clear hw6e TA s1 s2 s3 s4 s5 s6 s8 TT5 c0 c1 c2 c3 zz
    obtain ⟨L, hL⟩ : ∃ L, allC t.x t.y t.a t.b = L := ⟨_, rfl⟩
    have hseq := cells_stops (10 - 1) w5.heap.size L.length t.x t.y t.a t.b w6 FB (by rw [← hL]; exact allC_le)
    rw [hL] at hseq
    refine wpIn_rangeFunc_ownH rfl (by omega) (gf := 64) (lb := #[ptr w5.heap.size]) rfl trivial (enters_of Try.func64 (by kernel_rfl) rfl)
      hseq kB_t (kB_b (by omega)) (Below.refl _ _) (fun _ => rfl)
      (fun pre W => Who W bm n (delAll f pre) ∧ Turns (fun j => j = bm) w6 W)
      (fun c pre W => False)
      (OwnFrom.and (ownFrom_who0 (by omega)) (ownFrom_turns (Nat.le_refl _)))
      (fun c s X Y row hs hg hr => hs)
      ⟨by rw [delAll_nil]; exact u2, Turns.refl _ _⟩
      (fun q a' W => ∃ Bx, w6.heap.size ≤ Bx ∧ Two W Bx q.1.1 q.1.2 ∧ a' = { tmps := #[ptr p, .int .i64 i, ptr w.heap.size, undef, ptr (w.heap.size + 1), .int .i64 0, .int .i64 (k : Nat), .bool true, ptr w2.heap.size, ptr Bx, ptr p, .bool true, .bool false, undef, .tuple #[.int .i64 (k : Nat), .bool true], ptr p, .int .i64 i, .tuple #[.int .i64 (k : Nat), .bool true], .int .i64 (k : Nat), .bool true, .bool true, .bool false, undef, ptr p, ptr p, .pointer (some ⟨p, 5, none⟩), .slice (some ⟨g, 0, none⟩) l.length cap, .int .i64 (k : Nat), .pointer (some ⟨g, k * 5, none⟩), .pointer (some ⟨g, k * 5 + 1, none⟩), rct t.x t.y t.a t.b, ptr p, ptr p, ptr p, .pointer (some ⟨p, 5, none⟩), .slice (some ⟨g, 0, none⟩) l.length cap, .int .i64 (k : Nat), .int .i64 (k : Nat), .int .i64 ((k : Int) + 1), .slice (some ⟨g, 0, none⟩) (l.length - 1) cap, ptr p, .pointer (some ⟨p, 5, none⟩), rct t.x t.y t.a t.b, .func (.func 64) #[] #[ptr w5.heap.size], cel q.1.1 q.1.2, undef, undef, undef, undef, undef, undef, undef, undef, undef, undef, undef, undef, undef, undef, undef, undef], defers := [] })
      (fun q a' _ X Y row hs hg hr => by obtain ⟨Bx, e1, e2, e3⟩ := hs; exact ⟨Bx, e1, e2.own hg (fun r e => (hr r e).2), e3⟩)
      ?assign ?body ?done ?stop
    case assign =>
      rintro lo pre q W K ⟨hwh, hT⟩ hK
      have hsB := hT.size
      gi_wp2
      exact hK _ _ ((KeepsOthers.alloc _ _).from _) (Below.heap_alloc _ _ _ (by omega)) ⟨hwh.kept (Turns.of_below (S := NoB) (box1 _ _)) id, hT.trans (Turns.of_below (box1 _ _))⟩ ⟨W.heap.size, by omega, Two.newAt rfl, rfl⟩
    case body =>
      rintro lo pre q a' W hlo ⟨r, hr⟩ ⟨hwh, hT⟩ ⟨Bx, hBx, bX, rfl⟩ hlt
      have hsB := hT.size
      have hdW := u1.kept hT (fun e => hpb e.symm)
      have PW := boxed_kept u4 hT (by omega)
      obtain ⟨W1, hdel, hw5, hg5⟩ := (show Who W.drew bm n (delAll f pre) from hwh).drop q.2.1 q.2.2 0
      have x0 := bX.1.1
      have x1 := bX.1.2
      have y0 := PW.cell
      have y6 : W.cell? ⟨p, 6, none⟩ = some (.map (some bm)) := hdW.c 6
      have KF : KeepsFrom w6.heap.size W W1 := ⟨hg5.size, fun j o hB hk ho => (hg5.block j (Array.getElem?_eq_some_iff.1 hk).1 (fun e => by cases e; omega)).trans hk⟩
      have KK : KB w5.heap.size W W1 := hg5.block w5.heap.size (show w5.heap.size < W.heap.size by omega) (fun e => by cases e; omega)
      have hI : Who W1 bm n (delAll f (pre ++ [q])) ∧ Turns (fun j => j = bm) w6 W1 :=
        ⟨by rw [delAll_snoc]; exact hw5, hT.trans ((Turns.of_grown (w := W.drew) hg5 (fun j e => by cases e; exact .inl rfl)).undrew)⟩
      have HI := hide hI
      clear hg5 hw5 hwh hdW PW hI
      gi_wp2_with fail
      gi_region
      all_goals
        gi_wp2
        exact ⟨KF, KK, HI.out⟩
    case done =>
      rintro D xs w7 hD hxs ⟨hwh, hT⟩ hK
      rw [hxs] at hwh
      have hT7 := hT.size
      have y1 := u1.kept hT (fun e => hpb e.symm)
      have y3 := u3.kept hT (fun j e h => by subst h; exact row_ne_map u3 u2 e)
      have y4 := boxed_kept u4 hT (by omega)
      have y5 := u5.kept hT (fun j e h => by subst h; exact row_ne_map u5 u2 e)
      have y6 := u6.turn hT (by omega)
      have y8 := u8.turn hT (by omega)
      have TT7 : Turns (fun j => j = p ∨ j = bm ∨ j = g) w w7 := (TT6.mono (fun j _ h => h.elim .inl (fun h => .inr (.inr h)))).trans (hT.mono (fun j _ h => .inl (.inr (.inl h))))
      clear u1 u2 u3 u4 u5 u6 u8 hT TT6 FB hseq
      obtain ⟨fi, hf, hz, h4, h32⟩ := info_parts info43
      have hm1 : es.length + 1 ≤ maxLen := by unfold maxLen; omega
      have gS : ∀ wx, Boxed wx w.heap.size 27 (ptr p) → Four wx w2.heap.size t.x t.y t.a t.b → (wx.cell? ⟨w.heap.size, 0, none⟩ = some (ptr p) ∧ wx.cell? ⟨w2.heap.size, 0, none⟩ = some (.int .i64 t.x) ∧ wx.cell? ⟨w2.heap.size, 1, none⟩ = some (.int .i64 t.y) ∧ wx.cell? ⟨w2.heap.size, 2, none⟩ = some (.int .i64 t.a) ∧ wx.cell? ⟨w2.heap.size, 3, none⟩ = some (.int .i64 t.b)) := fun wx hb h8 => ⟨hb.cell, h8.1.1, h8.1.2.1, h8.1.2.2.1, h8.1.2.2.2⟩
      have gS0 := gS w7 y4 y8
      have gS1 : ∀ o, ((w7.alloc o).cell? ⟨w.heap.size, 0, none⟩ = some (ptr p) ∧ (w7.alloc o).cell? ⟨w2.heap.size, 0, none⟩ = some (.int .i64 t.x) ∧ (w7.alloc o).cell? ⟨w2.heap.size, 1, none⟩ = some (.int .i64 t.y) ∧ (w7.alloc o).cell? ⟨w2.heap.size, 2, none⟩ = some (.int .i64 t.a) ∧ (w7.alloc o).cell? ⟨w2.heap.size, 3, none⟩ = some (.int .i64 t.b)) := fun o => gS _ (y4.alloc o) (y8.turn (Turns.of_below (S := NoB) (box1 w7 o)) id)
      have hev : ev.ownBlock ≠ some w.heap.size := fun e => by have := hrowe _ e; omega
      have hev2 : ev.ownBlock ≠ some w2.heap.size := fun e => by have := hrowe _ e; omega
      have hev3 : ev.ownBlock ≠ some (w.heap.size + 1) := fun e => by have := hrowe _ e; omega
      have hevD : ev.ownBlock ≠ some D := fun e => by have := hrowe _ e; omega
      have hevp : ev.ownBlock ≠ some p := y1.ne_row y5 (by decide)
      have hT8 : ∀ {wx : World} {o : Obj}, (w7.alloc o).drew.grownBy wx ev.ownBlock → Turns (fun j => ev.ownBlock = some j) w7 wx := fun {wx o} hg =>
        (Turns.of_below (box1 w7 o)).trans ((Turns.of_grown (w := (w7.alloc o).drew) hg (fun j e => Or.inl e)).undrew)
      have gS2 : ∀ {wx : World} {o : Obj}, (w7.alloc o).drew.grownBy wx ev.ownBlock → (wx.cell? ⟨w.heap.size, 0, none⟩ = some (ptr p) ∧ wx.cell? ⟨w2.heap.size, 0, none⟩ = some (.int .i64 t.x) ∧ wx.cell? ⟨w2.heap.size, 1, none⟩ = some (.int .i64 t.y) ∧ wx.cell? ⟨w2.heap.size, 2, none⟩ = some (.int .i64 t.a) ∧ wx.cell? ⟨w2.heap.size, 3, none⟩ = some (.int .i64 t.b)) := fun {wx o} hg => gS wx (boxed_kept y4 (hT8 hg) hev) (y8.turn (hT8 hg) hev2)
      have gS3 : ∀ {wx : World} {o : Obj} {v : Value}, (w7.alloc o).drew.grownBy wx ev.ownBlock → ((wx.setCell ⟨p, 7, none⟩ v).cell? ⟨w.heap.size, 0, none⟩ = some (ptr p) ∧ (wx.setCell ⟨p, 7, none⟩ v).cell? ⟨w2.heap.size, 0, none⟩ = some (.int .i64 t.x) ∧ (wx.setCell ⟨p, 7, none⟩ v).cell? ⟨w2.heap.size, 1, none⟩ = some (.int .i64 t.y) ∧ (wx.setCell ⟨p, 7, none⟩ v).cell? ⟨w2.heap.size, 2, none⟩ = some (.int .i64 t.a) ∧ (wx.setCell ⟨p, 7, none⟩ v).cell? ⟨w2.heap.size, 3, none⟩ = some (.int .i64 t.b)) := fun {wx o v} hg =>
        gS _ (boxed_kept (boxed_kept y4 (hT8 hg) hev) (Turns.set (S := fun j => j = p) wx (p := ⟨p, 7, none⟩) rfl v) (by omega)) ((y8.turn (hT8 hg) hev2).turn (Turns.set (S := fun j => j = p) wx (p := ⟨p, 7, none⟩) rfl v) (by omega))
      have hW8 : ∀ {wx : World} {o : Obj}, (w7.alloc o).drew.grownBy wx ev.ownBlock → Wd wx p W_ H tv (.slice (some ⟨g, 0, none⟩) (l.length - 1) cap) bm ev := fun {wx o} hg => y1.kept (hT8 hg) hevp
      have b7 : w7.cell? ⟨p, 7, none⟩ = some ev := y1.c 7
      have b7' : ∀ o, (w7.alloc o).cell? ⟨p, 7, none⟩ = some ev := fun o => (y1.kept (Turns.of_below (S := NoB) (box1 w7 o)) id).c 7
      have HE := hide y5
      gi_wp2_with fail
      refine wpIn_wide.2 ?_
      refine Code.wp_mono (Q := Only (fun a' w' => ∃ w8 g3 cap3, a' = { tmps := #[ptr p, .int .i64 i, ptr w.heap.size, undef, ptr (w.heap.size + 1), .int .i64 0, .int .i64 (k : Nat), .bool true, ptr w2.heap.size, undef, ptr p, .bool true, .bool false, undef, .tuple #[.int .i64 (k : Nat), .bool true], ptr p, .int .i64 i, .tuple #[.int .i64 (k : Nat), .bool true], .int .i64 (k : Nat), .bool true, .bool true, .bool false, undef, ptr p, ptr p, .pointer (some ⟨p, 5, none⟩), .slice (some ⟨g, 0, none⟩) l.length cap, .int .i64 (k : Nat), .pointer (some ⟨g, k * 5, none⟩), .pointer (some ⟨g, k * 5 + 1, none⟩), rct t.x t.y t.a t.b, ptr p, ptr p, ptr p, .pointer (some ⟨p, 5, none⟩), .slice (some ⟨g, 0, none⟩) l.length cap, .int .i64 (k : Nat), .int .i64 (k : Nat), .int .i64 ((k : Int) + 1), .slice (some ⟨g, 0, none⟩) (l.length - 1) cap, ptr p, .pointer (some ⟨p, 5, none⟩), rct t.x t.y t.a t.b, .func (.func 64) #[] #[ptr w5.heap.size], undef, undef, undef, undef, undef, undef, ptr p, ptr p, ptr p, .pointer (some ⟨p, 7, none⟩), ev, rct t.x t.y t.a t.b, .slice (some ⟨w7.heap.size, 0, none⟩) 1 1, .slice (some ⟨g3, 0, none⟩) (es.length + 1) cap3, ptr p, .pointer (some ⟨p, 7, none⟩), undef], defers := [{ target := .collected D, args := #[] }] } ∧ w' = w8.setCell ⟨p, 7, none⟩ (.slice (some ⟨g3, 0, none⟩) (es.length + 1) cap3) ∧ (w7.alloc (.cells #[.int .i64 t.x, .int .i64 t.y, .int .i64 t.a, .int .i64 t.b] 43)).drew.grownBy w8 ev.ownBlock ∧ w8.ownsRow 0 43 4 (.slice (some ⟨g3, 0, none⟩) (es.length + 1) cap3) (es.length + 1) (es.flatMap Rc.cs ++ t.foot.cs) ∧ ((Value.slice (some ⟨g3, 0, none⟩) (es.length + 1) cap3).ownBlock = ev.ownBlock ∨ (Value.slice (some ⟨g3, 0, none⟩) (es.length + 1) cap3).ownBlock = some (w7.alloc (.cells #[.int .i64 t.x, .int .i64 t.y, .int .i64 t.a, .int .i64 t.b] 43)).drew.heap.size))) ?rest2 ?_
      case rest2 =>
        rintro (_ | _ | _ | _ | _) a' w' hO
        all_goals first | exact hO.elim | skip
        obtain ⟨w8, g3, cap3, rfl, rfl, hgrow, hown, hloc⟩ := hO
        have T8 := hT8 hgrow
        have hd8 := hW8 hgrow
        have TS : Turns (fun j => j = p) w8 (w8.setCell ⟨p, 7, none⟩ (.slice (some ⟨g3, 0, none⟩) (es.length + 1) cap3)) := Turns.set (S := fun j => j = p) w8 (p := ⟨p, 7, none⟩) rfl _
        have v1 := hd8.set7 (.slice (some ⟨g3, 0, none⟩) (es.length + 1) cap3)
        have l8 := y3.kept T8 (fun j e h => rows_ne y3 y5 (by decide) e h)
        have v3 := l8.kept TS (fun j e h => by subst h; exact hd8.ne_row l8 (by decide) e)
        have v2 := (hwh.kept T8 (row_ne_map y5 hwh)).kept TS hpb
        have r8 : Rcs w8 (.slice (some ⟨g3, 0, none⟩) (es.length + 1) cap3) (es ++ [t.foot]) := by simpa [Rcs] using hown
        have v5 := r8.kept TS (fun j e h => by subst h; exact hd8.ne_row r8 (by decide) e)
        have v8 := (y8.turn T8 hev2).turn TS (by omega)
        have v6 := (y6.turn T8 hev3).turn TS (by omega)
        have vK := TS.same (by omega) (T8.same hevD hK)
        have TT9 : Turns (fun j => j = p ∨ j = bm ∨ j = g ∨ ev.ownBlock = some j) w (w8.setCell ⟨p, 7, none⟩ (.slice (some ⟨g3, 0, none⟩) (es.length + 1) cap3)) := by
          refine ((TT7.mono (fun j _ h => ?_)).trans (T8.mono (fun j _ h => .inl (.inr (.inr (.inr h)))))).trans (TS.mono (fun j _ h => .inl (.inl h)))
          rcases h with h | h | h
          · exact .inl h
          · exact .inr (.inl h)
          · exact .inr (.inr (.inl h))
        have hevN : ∀ j, (Value.slice (some ⟨g3, 0, none⟩) (es.length + 1) cap3).ownBlock = some j → ev.ownBlock = some j ∨ w7.heap.size ≤ j := fun j e => by
          rcases hloc with h | h
          · exact .inl (by rw [← h]; exact e)
          · rw [h] at e
            simp at e
            right
            omega
        have h77 := TT7.size
        have hev' : ∀ j, (Value.slice (some ⟨g3, 0, none⟩) (es.length + 1) cap3).ownBlock = some j → ev.ownBlock = some j ∨ w.heap.size ≤ j := fun j e => (hevN j e).elim .inl (fun h => .inr (by omega))
        have hDw := (Array.getElem?_eq_some_iff.1 hK).1
        have hz9 : w7.heap.size ≤ (w8.setCell ⟨p, 7, none⟩ (.slice (some ⟨g3, 0, none⟩) (es.length + 1) cap3)).heap.size := Nat.le_trans T8.size TS.size
        obtain ⟨w9, hw9e⟩ : ∃ w9, w8.setCell ⟨p, 7, none⟩ (.slice (some ⟨g3, 0, none⟩) (es.length + 1) cap3) = w9 := ⟨_, rfl⟩
        rw [hw9e] at v1 v2 v3 v5 v6 v8 vK TT9 TS hz9 ⊢
        clear hw9e TS T8 hd8 l8 r8 hgrow hown hloc gS gS0 gS1 gS2 gS3 hW8 hT8 b7 b7' HE y1 y3 y4 y5 y6 y8 TT7 hwh
        obtain ⟨⟨c0, c1, c2, c3⟩, _, zz⟩ := id v8
        obtain ⟨⟨d0, d1, d2, d3⟩, ⟨f0, f1, f2, f3⟩, zq⟩ := id v6
        have HV := hide v1
        clear v1
        gi_wp2_with fail
        have v7 := v6.set t.x t.y t.a t.b
        have TR : Turns (fun j => j = w.heap.size + 1) w9 ((((w9.setCell ⟨w.heap.size + 1, 0, none⟩ (.int .i64 t.x)).setCell ⟨w.heap.size + 1, 1, none⟩ (.int .i64 t.y)).setCell ⟨w.heap.size + 1, 2, none⟩ (.int .i64 t.a)).setCell ⟨w.heap.size + 1, 3, none⟩ (.int .i64 t.b)) :=
          (((Turns.set (S := fun j => j = w.heap.size + 1) w9 (p := ⟨w.heap.size + 1, 0, none⟩) rfl _).trans (Turns.set (S := fun j => j = w.heap.size + 1 ∨ _) _ (p := ⟨w.heap.size + 1, 1, none⟩) (.inl rfl) _)).trans (Turns.set (S := fun j => j = w.heap.size + 1 ∨ _) _ (p := ⟨w.heap.size + 1, 2, none⟩) (.inl rfl) _)).trans (Turns.set (S := fun j => j = w.heap.size + 1 ∨ _) _ (p := ⟨w.heap.size + 1, 3, none⟩) (.inl rfl) _)
        obtain ⟨w10, hw10⟩ : ∃ w10, (((w9.setCell ⟨w.heap.size + 1, 0, none⟩ (.int .i64 t.x)).setCell ⟨w.heap.size + 1, 1, none⟩ (.int .i64 t.y)).setCell ⟨w.heap.size + 1, 2, none⟩ (.int .i64 t.a)).setCell ⟨w.heap.size + 1, 3, none⟩ (.int .i64 t.b) = w10 := ⟨_, rfl⟩
        rw [hw10] at v7 TR ⊢
        have hK10 := TR.same (by omega) vK
        refine ⟨by simp, .inl ⟨_, _, rfl, run_takeDeferred hK10, ?_⟩⟩
        have TD : Turns (fun j => j = D) w10 (w10.putObj D (.deferred none)) := Turns.of_grown (grownBy_putObj' w10 D (.deferred none)) (fun j e => by cases e; rfl)
        obtain ⟨⟨q0, q1, q2, q3⟩, _, _⟩ := v7.turn TD (by omega)
        have hTall : Turns (fun j => j = w.heap.size + 1 ∨ j = D) w9 (w10.putObj D (.deferred none)) := (TR.mono (fun j _ h => .inl h)).trans (TD.mono (fun j _ h => .inl (.inr h)))
        have hr3 := (v3.lt g rfl).2
        refine ⟨.tuple #[rct t.x t.y t.a t.b, .int .i64 0], by simp [results, Try.f22, go_sem, q0, q1, q2, q3], rfl, _, _, HV.out.kept hTall (fun h => by omega), v3.kept hTall (fun j e h => ?_), ?_, v5.kept hTall (fun j e h => ?_), ?_, fun j e => .inl e, hev'⟩
        · simp only [Value.ownBlock, Option.some.injEq] at e; omega
        · rw [hL]; exact v2.kept hTall (fun h => by omega)
        · have h1 := (v5.lt j e).2
          rcases hevN j e with h2 | h2
          · have := hrowe j h2; omega
          · omega
        · refine (TT9.mono (fun j _ h => ?_)).trans (hTall.mono (fun j _ h => .inr (by omega)))
          rcases h with h | h | h | h
          · exact .inl h
          · exact .inr (.inl h)
          · exact .inr (.inr (.inl (by rw [h]; rfl)))
          · exact .inr (.inr (.inr h))
      refine wp_region_held_drew (S := fun w' => (w'.cell? ⟨w.heap.size, 0, none⟩ = some (ptr p) ∧ w'.cell? ⟨w2.heap.size, 0, none⟩ = some (.int .i64 t.x) ∧ w'.cell? ⟨w2.heap.size, 1, none⟩ = some (.int .i64 t.y) ∧ w'.cell? ⟨w2.heap.size, 2, none⟩ = some (.int .i64 t.a) ∧ w'.cell? ⟨w2.heap.size, 3, none⟩ = some (.int .i64 t.b))) (by kernel_rfl) gS0 (fun hHeld => ?_)
      refine wpAnyH_take (i := 0) (v := ?_) rfl (by kernel_rfl) (by kernel_rfl) (by kernel_rfl) (fun _ _ _ h => h.elim) (Or.inl ⟨by rfl, ?_⟩) (by assumption) ?_
      rotate_left
      · intro wx hSw
        try dsimp only at hSw
        go_simp
        try with_reducible rfl
      try simp only [Act.put, List.getElem_toArray, List.getElem_cons_zero, List.setIfInBounds_toArray, List.set_cons_zero, List.set_cons_succ]
      refine wpAnyH_take (i := 1) (v := ?_) rfl (by kernel_rfl) (by kernel_rfl) (by kernel_rfl) (fun _ _ _ h => h.elim) (Or.inl ⟨by rfl, ?_⟩) (by assumption) ?_
      rotate_left
      · intro wx hSw
        try dsimp only at hSw
        go_simp
        try with_reducible rfl
      try simp only [Act.put, List.getElem_toArray, List.getElem_cons_zero, List.getElem_cons_succ, List.setIfInBounds_toArray, List.set_cons_zero, List.set_cons_succ]
      refine wpAnyH_take (i := 2) (v := ?_) rfl (by kernel_rfl) (by kernel_rfl) (by kernel_rfl) (fun _ _ _ h => h.elim) (Or.inl ⟨by rfl, ?_⟩) (by assumption) ?_
      rotate_left
      · intro wx hSw
        try dsimp only at hSw
        go_simp
        try with_reducible rfl
      try simp only [Act.put, List.getElem_toArray, List.getElem_cons_zero, List.getElem_cons_succ, List.setIfInBounds_toArray, List.set_cons_zero, List.set_cons_succ]
      refine wpAnyH_take (i := 3) (v := ?_) rfl (by kernel_rfl) (by kernel_rfl) (by kernel_rfl) (fun _ _ _ h => h.elim) (Or.inl ⟨by rfl, ?_⟩) (by assumption) ?_
      rotate_left
      · intro wx hSw
        try dsimp only at hSw
        go_simp
        try with_reducible rfl
      try simp only [Act.put, List.getElem_toArray, List.getElem_cons_zero, List.getElem_cons_succ, List.setIfInBounds_toArray, List.set_cons_zero, List.set_cons_succ]
      refine wpAnyH_take (i := 5) (v := ?_) rfl (by kernel_rfl) (by kernel_rfl) (by kernel_rfl) (fun _ _ _ h => h.elim) (Or.inl ⟨by rfl, ?_⟩) (by assumption) ?_
      rotate_left
      · intro wx hSw
        try dsimp only at hSw
        go_simp
        try with_reducible rfl
      try simp only [Act.put, List.getElem_toArray, List.getElem_cons_zero, List.getElem_cons_succ, List.setIfInBounds_toArray, List.set_cons_zero, List.set_cons_succ]
      refine wpAnyH_ready (rs := [4, 6]) (by kernel_rfl) (by simp) ?_
      refine AllReadyH.cons rfl (fun K hK => ?_) ?_
      · go_simp
        refine hK.out _ _ ?_ (fun hHeld => ?_)
        · first | exact gS0 | exact gS1 _ | exact gS2 (by assumption) | exact gS3 (by assumption)
        clear hK K
        try simp only [Act.put, List.getElem_toArray, List.getElem_cons_zero, List.getElem_cons_succ, List.setIfInBounds_toArray, List.set_cons_zero, List.set_cons_succ]
        refine wpAnyH_ready (rs := [6]) (by kernel_rfl) (by simp) ?_
        refine AllReadyH.cons rfl (fun K hK => ?_) ?_
        · go_simp
          refine hK.out _ _ ?_ (fun hHeld => ?_)
          · first | exact gS0 | exact gS1 _ | exact gS2 (by assumption) | exact gS3 (by assumption)
          clear hK K
          try simp only [Act.put, List.getElem_toArray, List.getElem_cons_zero, List.getElem_cons_succ, List.setIfInBounds_toArray, List.set_cons_zero, List.set_cons_succ]
          refine wpAnyH_ready (rs := [7]) (by kernel_rfl) (by simp) ?_
          refine AllReadyH.cons rfl (fun K hK => ?_) ?_
          · refine step_append_row rfl _ _ 48 rfl 43 fi z43 4 32 Try.underlying48 hf hz h4 h32 rfl (by decide) ev es.length _ (by simp [Act.eval]) (HE.out.alloc _) ⟨w7.heap.size, 0, none⟩ 1 1 t.foot.cs (by simp [Act.eval]) rfl (rc_new w7 t.foot) one_rc hm1 hes ?_
            intro v' w8 hown hgrow hloc'
            obtain ⟨g3, cap3, rfl⟩ := row_form hown
            have hd8 := hW8 hgrow
            have c78 : w8.cell? ⟨p, 7, none⟩ = some ev := hd8.c 7
            have f78 := hd8.f 7
            refine hK.out _ _ ?_ (fun hHeld => ?_)
            · first | exact gS0 | exact gS1 _ | exact gS2 (by assumption) | exact gS3 (by assumption)
            clear hK K
            try simp only [Act.put, List.getElem_toArray, List.getElem_cons_zero, List.getElem_cons_succ, List.setIfInBounds_toArray, List.set_cons_zero, List.set_cons_succ]
            refine wpAnyH_take (i := 8) (v := ?_) rfl (by kernel_rfl) (by kernel_rfl) (by kernel_rfl) (fun _ _ _ h => h.elim) (Or.inl ⟨by rfl, ?_⟩) (by assumption) ?_
            rotate_left
            · intro wx hSw
              try dsimp only at hSw
              go_simp
              try with_reducible rfl
            try simp only [Act.put, List.getElem_toArray, List.getElem_cons_zero, List.getElem_cons_succ, List.setIfInBounds_toArray, List.set_cons_zero, List.set_cons_succ]
            refine wpAnyH_take (i := 9) (v := ?_) rfl (by kernel_rfl) (by kernel_rfl) (by kernel_rfl) (fun _ _ _ h => h.elim) (Or.inl ⟨by rfl, ?_⟩) (by assumption) ?_
            rotate_left
            · intro wx hSw
              try dsimp only at hSw
              go_simp
              try with_reducible rfl
            try simp only [Act.put, List.getElem_toArray, List.getElem_cons_zero, List.getElem_cons_succ, List.setIfInBounds_toArray, List.set_cons_zero, List.set_cons_succ]
            refine wpAnyH_ready (rs := [10]) (by kernel_rfl) (by simp) ?_
            refine AllReadyH.cons rfl (fun K hK => ?_) ?_
            · go_simp
              refine hK.out _ _ ?_ (fun hHeld => ?_)
              · first | exact gS0 | exact gS1 _ | exact gS2 (by assumption) | exact gS3 (by assumption)
              clear hK K
              try simp only [Act.put, List.getElem_toArray, List.getElem_cons_zero, List.getElem_cons_succ, List.setIfInBounds_toArray, List.set_cons_zero, List.set_cons_succ]
              refine wpAnyH_done (by kernel_rfl) ?_ _
              exact ⟨_, _, _, rfl, rfl, hgrow, hown, hloc'⟩
            exact AllReadyH.nil
          exact AllReadyH.nil
        exact AllReadyH.nil
      refine AllReadyH.cons rfl (fun K hK => ?_) ?_
      · go_simp
        refine hK.out _ _ ?_ (fun hHeld => ?_)
        · first | exact gS0 | exact gS1 _ | exact gS2 (by assumption) | exact gS3 (by assumption)
        clear hK K
        try simp only [Act.put, List.getElem_toArray, List.getElem_cons_zero, List.getElem_cons_succ, List.setIfInBounds_toArray, List.set_cons_zero, List.set_cons_succ]
        refine wpAnyH_ready (rs := [4]) (by kernel_rfl) (by simp) ?_
        refine AllReadyH.cons rfl (fun K hK => ?_) ?_
        · go_simp
          refine hK.out _ _ ?_ (fun hHeld => ?_)
          · first | exact gS0 | exact gS1 _ | exact gS2 (by assumption) | exact gS3 (by assumption)
          clear hK K
          try simp only [Act.put, List.getElem_toArray, List.getElem_cons_zero, List.getElem_cons_succ, List.setIfInBounds_toArray, List.set_cons_zero, List.set_cons_succ]
          refine wpAnyH_ready (rs := [7]) (by kernel_rfl) (by simp) ?_
          refine AllReadyH.cons rfl (fun K hK => ?_) ?_
          · refine step_append_row rfl _ _ 48 rfl 43 fi z43 4 32 Try.underlying48 hf hz h4 h32 rfl (by decide) ev es.length _ (by simp [Act.eval]) (HE.out.alloc _) ⟨w7.heap.size, 0, none⟩ 1 1 t.foot.cs (by simp [Act.eval]) rfl (rc_new w7 t.foot) one_rc hm1 hes ?_
            intro v' w8 hown hgrow hloc'
            obtain ⟨g3, cap3, rfl⟩ := row_form hown
            have hd8 := hW8 hgrow
            have c78 : w8.cell? ⟨p, 7, none⟩ = some ev := hd8.c 7
            have f78 := hd8.f 7
            refine hK.out _ _ ?_ (fun hHeld => ?_)
            · first | exact gS0 | exact gS1 _ | exact gS2 (by assumption) | exact gS3 (by assumption)
            clear hK K
            try simp only [Act.put, List.getElem_toArray, List.getElem_cons_zero, List.getElem_cons_succ, List.setIfInBounds_toArray, List.set_cons_zero, List.set_cons_succ]
            refine wpAnyH_take (i := 8) (v := ?_) rfl (by kernel_rfl) (by kernel_rfl) (by kernel_rfl) (fun _ _ _ h => h.elim) (Or.inl ⟨by rfl, ?_⟩) (by assumption) ?_
            rotate_left
            · intro wx hSw
              try dsimp only at hSw
              go_simp
              try with_reducible rfl
            try simp only [Act.put, List.getElem_toArray, List.getElem_cons_zero, List.getElem_cons_succ, List.setIfInBounds_toArray, List.set_cons_zero, List.set_cons_succ]
            refine wpAnyH_take (i := 9) (v := ?_) rfl (by kernel_rfl) (by kernel_rfl) (by kernel_rfl) (fun _ _ _ h => h.elim) (Or.inl ⟨by rfl, ?_⟩) (by assumption) ?_
            rotate_left
            · intro wx hSw
              try dsimp only at hSw
              go_simp
              try with_reducible rfl
            try simp only [Act.put, List.getElem_toArray, List.getElem_cons_zero, List.getElem_cons_succ, List.setIfInBounds_toArray, List.set_cons_zero, List.set_cons_succ]
            refine wpAnyH_ready (rs := [10]) (by kernel_rfl) (by simp) ?_
            refine AllReadyH.cons rfl (fun K hK => ?_) ?_
            · go_simp
              refine hK.out _ _ ?_ (fun hHeld => ?_)
              · first | exact gS0 | exact gS1 _ | exact gS2 (by assumption) | exact gS3 (by assumption)
              clear hK K
              try simp only [Act.put, List.getElem_toArray, List.getElem_cons_zero, List.getElem_cons_succ, List.setIfInBounds_toArray, List.set_cons_zero, List.set_cons_succ]
              refine wpAnyH_done (by kernel_rfl) ?_ _
              exact ⟨_, _, _, rfl, rfl, hgrow, hown, hloc'⟩
            exact AllReadyH.nil
          exact AllReadyH.nil
        exact AllReadyH.nil
      exact AllReadyH.nil
    case stop =>
      rintro D c pre W hD hpre hIx hK
      exact hIx.elim
  refine wp_region_held_drew (S := fun w' => w'.cell? ⟨w.heap.size, 0, none⟩ = some (ptr p)) (by kernel_rfl) hS0 (fun hHeld => ?_)
  refine wpAnyH_take (i := 0) (v := ?_) rfl (by kernel_rfl) (by kernel_rfl) (by kernel_rfl) (fun _ _ _ h => h.elim) (Or.inl ⟨by rfl, ?_⟩) (by assumption) ?_
  rotate_left
  · intro wx hSw
    try dsimp only at hSw
    go_simp
    try with_reducible rfl
  try simp only [Act.put, List.getElem_toArray, List.getElem_cons_zero, List.setIfInBounds_toArray, List.set_cons_zero, List.set_cons_succ]
  refine wpAnyH_take (i := 1) (v := ?_) rfl (by kernel_rfl) (by kernel_rfl) (by kernel_rfl) (fun _ _ _ h => h.elim) (Or.inl ⟨by rfl, ?_⟩) (by assumption) ?_
  rotate_left
  · intro wx hSw
    try dsimp only at hSw
    go_simp
    try with_reducible rfl
  try simp only [Act.put, List.getElem_toArray, List.getElem_cons_zero, List.getElem_cons_succ, List.setIfInBounds_toArray, List.set_cons_zero, List.set_cons_succ]
  refine wpAnyH_take (i := 2) (v := ?_) rfl (by kernel_rfl) (by kernel_rfl) (by kernel_rfl) (fun _ _ _ h => h.elim) (Or.inl ⟨by rfl, ?_⟩) (by assumption) ?_
  rotate_left
  · intro wx hSw
    try dsimp only at hSw
    go_simp
    try with_reducible rfl
  try simp only [Act.put, List.getElem_toArray, List.getElem_cons_zero, List.getElem_cons_succ, List.setIfInBounds_toArray, List.set_cons_zero, List.set_cons_succ]
  refine wpAnyH_take (i := 3) (v := ?_) rfl (by kernel_rfl) (by kernel_rfl) (by kernel_rfl) (fun _ _ _ h => h.elim) (Or.inl ⟨by rfl, ?_⟩) (by assumption) ?_
  rotate_left
  · intro wx hSw
    try dsimp only at hSw
    go_simp
    try with_reducible rfl
  try simp only [Act.put, List.getElem_toArray, List.getElem_cons_zero, List.getElem_cons_succ, List.setIfInBounds_toArray, List.set_cons_zero, List.set_cons_succ]
  refine wpAnyH_take (i := 5) (v := ?_) rfl (by kernel_rfl) (by kernel_rfl) (by kernel_rfl) (fun _ _ _ h => h.elim) (Or.inl ⟨by rfl, ?_⟩) (by assumption) ?_
  rotate_left
  · intro wx hSw
    try dsimp only at hSw
    go_simp
    try with_reducible rfl
  try simp only [Act.put, List.getElem_toArray, List.getElem_cons_zero, List.getElem_cons_succ, List.setIfInBounds_toArray, List.set_cons_zero, List.set_cons_succ]
  refine wpAnyH_take (i := 6) (v := ?_) rfl (by kernel_rfl) (by kernel_rfl) (by kernel_rfl) (fun _ _ _ h => h.elim) (Or.inl ⟨by rfl, ?_⟩) (by assumption) ?_
  rotate_left
  · intro wx hSw
    try dsimp only at hSw
    go_simp
    try with_reducible rfl
  try simp only [Act.put, List.getElem_toArray, List.getElem_cons_zero, List.getElem_cons_succ, List.setIfInBounds_toArray, List.set_cons_zero, List.set_cons_succ]
  refine wpAnyH_take (i := 7) (v := ?_) rfl (by kernel_rfl) (by kernel_rfl) (by kernel_rfl) (fun _ _ _ h => h.elim) (Or.inl ⟨by rfl, ?_⟩) (by assumption) ?_
  rotate_left
  · intro wx hSw
    try dsimp only at hSw
    go_simp
    try with_reducible rfl
  try simp only [Act.put, List.getElem_toArray, List.getElem_cons_zero, List.getElem_cons_succ, List.setIfInBounds_toArray, List.set_cons_zero, List.set_cons_succ]
  refine wpAnyH_ready (rs := [4]) (by kernel_rfl) (by simp) ?_
  refine AllReadyH.cons rfl (fun K hK => ?_) ?_
  · go_simp
    refine hK.out _ _ ?_ (fun hHeld => ?_)
    · first | exact hS0 | exact hS2 (by assumption) | exact hS3 (by assumption)
    clear hK K
    try simp only [Act.put, List.getElem_toArray, List.getElem_cons_zero, List.getElem_cons_succ, List.setIfInBounds_toArray, List.set_cons_zero, List.set_cons_succ]
    refine wpAnyH_ready (rs := [8]) (by kernel_rfl) (by simp) ?_
    refine AllReadyH.cons rfl (fun K hK => ?_) ?_
    · go_simp
      refine HD.out.mono ?_
      rintro e w4 ⟨rfl, hb4, hg4⟩
      have hd4 := hW4 hg4
      have c54 : w4.cell? ⟨p, 5, none⟩ = some (.slice (some ⟨g, 0, none⟩) l.length cap) := hd4.c 5
      have f54 := hd4.f 5
      try go_wp2_with fail
      refine hK.out _ _ ?_ (fun hHeld => ?_)
      · first | exact hS0 | exact hS2 (by assumption) | exact hS3 (by assumption)
      clear hK K
      try simp only [Act.put, List.getElem_toArray, List.getElem_cons_zero, List.getElem_cons_succ, List.setIfInBounds_toArray, List.set_cons_zero, List.set_cons_succ]
      refine wpAnyH_take (i := 9) (v := ?_) rfl (by kernel_rfl) (by kernel_rfl) (by kernel_rfl) (fun _ _ _ h => h.elim) (Or.inl ⟨by rfl, ?_⟩) (by assumption) ?_
      rotate_left
      · intro wx hSw
        try dsimp only at hSw
        go_simp
        try with_reducible rfl
      try simp only [Act.put, List.getElem_toArray, List.getElem_cons_zero, List.getElem_cons_succ, List.setIfInBounds_toArray, List.set_cons_zero, List.set_cons_succ]
      refine wpAnyH_take (i := 10) (v := ?_) rfl (by kernel_rfl) (by kernel_rfl) (by kernel_rfl) (fun _ _ _ h => h.elim) (Or.inl ⟨by rfl, ?_⟩) (by assumption) ?_
      rotate_left
      · intro wx hSw
        try dsimp only at hSw
        go_simp
        try with_reducible rfl
      try simp only [Act.put, List.getElem_toArray, List.getElem_cons_zero, List.getElem_cons_succ, List.setIfInBounds_toArray, List.set_cons_zero, List.set_cons_succ]
      refine wpAnyH_ready (rs := [11]) (by kernel_rfl) (by simp) ?_
      refine AllReadyH.cons rfl (fun K hK => ?_) ?_
      · go_simp
        refine hK.out _ _ ?_ (fun hHeld => ?_)
        · first | exact hS0 | exact hS2 (by assumption) | exact hS3 (by assumption)
        clear hK K
        try simp only [Act.put, List.getElem_toArray, List.getElem_cons_zero, List.getElem_cons_succ, List.setIfInBounds_toArray, List.set_cons_zero, List.set_cons_succ]
        refine wpAnyH_done (by kernel_rfl) ?_ _
        exact ⟨w4, rfl, rfl, hb4, hg4⟩
      exact AllReadyH.nil
    exact AllReadyH.nil
  exact AllReadyH.nil
end Go.Proofs.Ytobjadfchpgjeaa
