/-
  phalanxlaw04.Made: a map that has a world.
-/
import Derived.Test.YtobjadfchpgjeaaMk
set_option linter.unusedSimpArgs false
namespace Go.Proofs.Ytobjadfchpgjeaa
open Go.RowKit
set_option linter.unusedVariables false
theorem BB.ne_row {w : World} {q : Nat} {a b : Value} (h : BB w q a b) {v : Value} {e : TypeId} {k n : Nat} {xs : List Value} (hv : w.ownsRow 0 e k v n xs) (he : e ≠ 30) : v.ownBlock ≠ some q := by
  intro hh
  rcases hv.2 with ⟨rfl, _⟩ | ⟨g, cap, cur, rfl, hb, hg, _⟩
  · simp [Value.ownBlock] at hh
  · simp [Value.ownBlock] at hh
    subst hh
    rw [show w.heap[g]? = _ from h] at hg
    simp at hg
    exact he hg.2.symm
theorem BoAt.box {N : Nat} {w w' : World} {p r : Nat} {W H : Int} {tl : List Nat} {l : List Bd} {es : List Rc} {bm n : Nat} {tv bv ev rt rb re a b : Value} {k : Nat} (h : BoAt N w p r W H tl l es bm n tv bv ev rt rb re) (hB : BB w k a b) (hk : k < N) (T : Turns (fun j => j = k) w w') : BoAt N w' p r W H tl l es bm n tv bv ev rt rb re := by
  have n1 := h.np
  have n2 := h.nr
  have n3 := h.nm
  exact { h with d := h.d.kept T (by omega), t := h.t.kept T (fun j e q => hB.ne_row h.t (by decide) (q ▸ e)), b := h.b.kept T (fun j e q => hB.ne_row h.b (by decide) (q ▸ e)), f := h.f.kept T (by omega), e := h.e.kept T (fun j e q => hB.ne_row h.e (by decide) (q ▸ e)), d' := h.d'.kept T (by omega), t' := h.t'.kept T (fun j e q => hB.ne_row h.t' (by decide) (q ▸ e)), b' := h.b'.kept T (fun j e q => hB.ne_row h.b' (by decide) (q ▸ e)), e' := h.e'.kept T (fun j e q => hB.ne_row h.e' (by decide) (q ▸ e)) }
theorem turns_set2 (w : World) (n : Nat) (a b : Value) : Turns (fun j => j = n) w ((w.setCell ⟨n, 0, none⟩ a).setCell ⟨n, 1, none⟩ b) :=
  (Turns.set (S := fun j => j = n) w (p := ⟨n, 0, none⟩) rfl a).trans ((Turns.set (S := fun j => j = n) _ (p := ⟨n, 1, none⟩) rfl b).mono (fun _ _ h => .inl h))
/-- New in both, one behind the other. -/
theorem made_bo {N : Nat} {w1 w2 w3 : World} {W H : Int} {tl : List Nat} {L : List Bd} {p r : Nat} (h1 : Made w1 W H tl L p w2) (h2 : RefMade w2 W H tl L r w3) (hN : N ≤ w1.heap.size) (hw : whoL L = whoF L) :
    (∃ bm tv bv rt rb, BoAt N w3 p r W H tl L [] bm (64 * L.length) tv bv (.slice none 0 0) rt rb (.slice none 0 0)) ∧ Below w1.heap.size w1 w3 := by
  obtain ⟨bm, tv, bv, a1, a2, a3, a4, a5, a6, a7, a8, a9⟩ := h1
  obtain ⟨rt, rb, b1, b2, b3, b4, b5, b6, b7⟩ := h2
  rw [hw] at a4
  have T : Turns NoB w2 w3 := Turns.of_below b4
  have z := a5.size
  refine ⟨⟨bm, tv, bv, rt, rb, a1.kept T id, a2.kept T (fun _ _ => id), a3.kept T (fun _ _ => id), a4.kept T id, World.ownsRow_nil _ _ _ _, b1, b2, b3, World.ownsRow_nil _ _ _ _, fun k e q => ?_, fun k e => ?_, by omega, by omega, by omega, fun k e => ?_, fun k e => ?_, fun k e => ?_, fun k e => ?_⟩, bt a5 b4⟩
  · have := (a3.lt k e).2
    have := b7 k q
    omega
  · simp [Value.ownBlock] at e
  · have := a9 k e; omega
  · simp [Value.ownBlock] at e
  · have := b7 k e; omega
  · simp [Value.ownBlock] at e
/-- Behind k edits. -/
def Mrel (w : World) (p r : Nat) (W H : Int) (tl : List Nat) (k : Nat) (wr : World) : Prop :=
  BB wr (w.heap.size + 1) (ptr p) (ptr r) ∧ (∃ l es bm n tv bv ev rt rb re, BoAt (w.heap.size + 2) wr p r W H tl l es bm n tv bv ev rt rb re ∧ Fine W H l ∧ es.length ≤ k ∧ n ≤ 16384 + 64 * k) ∧ Below w.heap.size w wr ∧ w.heap.size + 2 ≤ wr.heap.size
theorem Mrel.box {w wr : World} {p r : Nat} {W H : Int} {tl : List Nat} {k : Nat} (h : Mrel w p r W H tl k wr) : Mrel w p r W H tl k ((wr.setCell ⟨w.heap.size + 1, 0, none⟩ (ptr p)).setCell ⟨w.heap.size + 1, 1, none⟩ (ptr r)) := by
  obtain ⟨h1, ⟨l, es, bm, n, tv, bv, ev, rt, rb, re, h2, h3, h4, h5⟩, h6, h7⟩ := h
  exact ⟨h1.set _ _, ⟨l, es, bm, n, tv, bv, ev, rt, rb, re, h2.box h1 (by omega) (turns_set2 _ _ _ _), h3, h4, h5⟩, (h6.setCell (p := ⟨w.heap.size + 1, 0, none⟩) (by simp) _).setCell (p := ⟨w.heap.size + 1, 1, none⟩) (by simp) _, by simpa [World.setCell] using h7⟩
theorem Mrel.play {w wr wx : World} {p r : Nat} {W H : Int} {tl : List Nat} {k : Nat} {t : Bool × Bd} (h : Mrel w p r W H tl k wr) (hx : Below wr.heap.size wr wx) (hk : (k + 1) * 48 ≤ 140737488355328) :
    Calls Try.prog 24 #[boV p r, edV t.1 t.2] wx fun e w' => e = .returned (.bool true) ∧ Mrel w p r W H tl (k + 1) w' := by
  obtain ⟨h1, ⟨l, es, bm, n, tv, bv, ev, rt, rb, re, h2, h3, h4, h5⟩, h6, h7⟩ := h
  have z := hx.size
  refine (play_any (w.heap.size + 2) wx p r W H tl l es bm n tv bv ev rt rb re t.1 t.2 (h2.below hx) h3 (by omega) (by unfold maxLen; omega) (by omega)).mono ?_
  rintro e w' ⟨rfl, l', es', bm', n', tv', bv', ev', rt', rb', re', q1, q2, q3, q4, q5⟩
  refine ⟨rfl, ?_, ⟨l', es', bm', n', tv', bv', ev', rt', rb', re', q1, q2, by omega, by omega⟩, (bt h6 hx).trans (q5.mono (by omega)), ?_⟩
  · exact (q5.block _ (by omega)).trans (h1.kept hx)
  · have := q5.size; omega
theorem wp_only {c : Code} {Q : Exit → Act → World → Prop} {a : Act} {w : World} (h : Code.wp Try.prog c (Only (fun a' w' => Q .normal a' w')) a w) : Code.wp Try.prog c Q a w := by
  refine Code.wp_mono ?_ h
  rintro (_ | _ | _ | _ | _) a' w' hO
  all_goals first | exact hO.elim | exact hO
/-- What Made tells of a map that has a world. -/
def Mades (w : World) (W H : Int) (tl : List Nat) (e : Ending) (w' : World) : Prop :=
  ∃ p r, e = .returned (.tuple #[boV p r, .bool true, .bool true]) ∧ ∃ k, Mrel w p r W H tl k w' ∧ (k : Int) * 48 ≤ 140737488355328
set_option maxRecDepth 100000 in
set_option maxHeartbeats 4000000 in
theorem made_good (W H : Int) (tv bv lv : Value) (tl : List Nat) (L : List Bd) (K : List (Bool × Bd)) (w : World) (hv : TlR w tv tl) (hb : ∀ x ∈ tl, x < 256) (hl : BdR w bv L) (ht : tl.length ≤ 140737488355328) (hL : L.length * 40 ≤ 140737488355328) (hK : EdR w lv K) (hc : chkC W H tl L = 0) :
    Calls Try.prog 8 #[mp W H tv bv, lv] w (Mades w W H tl) := by
  have B0 := box2 w (.cells #[.int .i64 W, .int .i64 H, tv, bv] 25) (.cells #[.pointer none, .pointer none] 30)
  have M0 : MB ((w.alloc (.cells #[.int .i64 W, .int .i64 H, tv, bv] 25)).alloc (.cells #[.pointer none, .pointer none] 30)) w.heap.size W H tv bv := (Below.heap_alloc _ _ _ (by simp)).trans (heap_alloc_new w _)
  have R0 : BB ((w.alloc (.cells #[.int .i64 W, .int .i64 H, tv, bv] 25)).alloc (.cells #[.pointer none, .pointer none] 30)) (w.heap.size + 1) (.pointer none) (.pointer none) := by
    have := heap_alloc_new (w.alloc (.cells #[.int .i64 W, .int .i64 H, tv, bv] 25)) (.cells #[.pointer none, .pointer none] 30)
    simpa [BB] using this
  have z0 : ((w.alloc (.cells #[.int .i64 W, .int .i64 H, tv, bv] 25)).alloc (.cells #[.pointer none, .pointer none] 30)).heap.size = w.heap.size + 2 := by simp
  obtain ⟨X, hX⟩ : ∃ X, (w.alloc (.cells #[.int .i64 W, .int .i64 H, tv, bv] 25)).alloc (.cells #[.pointer none, .pointer none] 30) = X := ⟨_, rfl⟩
  rw [hX] at B0 M0 R0 z0
  obtain ⟨-, hlen, -, hw, hF⟩ := chkC_zero hc
  have HO : Hid (∀ wx, Below w.heap.size w wx → Calls Try.prog 31 #[mp W H tv bv] wx fun e w' => ∃ tv' bv', e = .returned (mp W H tv' bv') ∧ Tls w' tv' tl ∧ Bds w' bv' L ∧ Below wx.heap.size wx w') := hide fun wx hx => own_any W H tv bv tl L wx (hv.kept hx) (hl.kept hx) ht hL
  have HR : Hid (∀ wx, Below w.heap.size w wx → Calls Try.prog 32 #[mp W H tv bv] wx fun e w' => ∃ r, e = .returned (.tuple #[ptr r, .int .i64 0]) ∧ RefMade wx W H tl L r w') := hide fun wx hx => refnew_good W H tv bv tl L wx (hv.kept hx) hb (hl.kept hx) hc
  have HN : Hid (∀ wx tv' bv', Tls wx tv' tl → Bds wx bv' L → Calls Try.prog 26 #[mp W H tv' bv'] wx fun e w' => ∃ p, e = .returned (.tuple #[ptr p, .int .i64 0]) ∧ Made wx W H tl L p w') := hide fun wx tv' bv' h1 h2 => newp_ok h1.r hb h2.r hc
  have HC : Hid (∀ wx tv' bv', Tls wx tv' tl → Bds wx bv' L → Calls Try.prog 33 #[mp W H tv' bv'] wx fun e w' => e = .returned (.int .i64 0) ∧ Below wx.heap.size wx w') := hide fun wx tv' bv' h1 h2 => by
    have := check_any W H tv' bv' tl L wx h1.r hb h2.r
    rwa [nwc_chk, hc] at this
  have hvf := hv
  have hlf := hl
  obtain ⟨a1, cap1, rfl, -⟩ := hvf
  obtain ⟨a2, cap2, rfl, -⟩ := hlf
  obtain ⟨a3, cap3, rfl, k1, k2, k3⟩ := hK
  have K3 := hide k3
  have HF := hide hF
  have HW := hide hw
  clear hv hl hc hb k3 hF hw
  obtain ⟨m0, m1, m2, m3⟩ := M0.c
  go_enter Try.func8, Try.ntmps8
  go_wp2_with fail
  refine (HO.out _ B0).mono ?_
  rintro e w1 ⟨tv1, bv1, rfl, t1, b1, hb1⟩
  have M1 := M0.kept hb1
  have R1 := R0.kept hb1
  have B1 := bt B0 hb1
  have z1 := hb1.size
  clear hX m0 m1 m2 m3 M0 R0 B0 hb1
  have HT1 := hide t1
  have HBd1 := hide b1
  obtain ⟨_, _, rfl, -⟩ := t1.r
  obtain ⟨_, _, rfl, -⟩ := b1.r
  clear t1 b1
  go_wp2_with fail
  refine (HN.out _ _ _ HT1.out HBd1.out).mono ?_
  rintro e w2 ⟨p, rfl, hm2⟩
  have hb2 : Below w1.heap.size w1 w2 := by
    obtain ⟨_, _, _, _, _, _, _, hh, _⟩ := hm2
    exact hh
  have HM2 := hide hm2
  have M2 := M1.kept hb2
  have R2 := R1.kept hb2
  have B2 := bt B1 hb2
  clear HT1 HBd1 M1 R1 B1 hb2 hm2
  obtain ⟨m0, m1, m2, m3⟩ := M2.c
  go_wp2_with fail
  refine (HR.out _ B2).mono ?_
  rintro e w3 ⟨r, rfl, hm3⟩
  have hb3 : Below w2.heap.size w2 w3 := by
    obtain ⟨_, _, _, _, _, hh, _⟩ := hm3
    exact hh
  have HM3 := hide (made_bo (N := w.heap.size + 2) HM2.out hm3 (by omega) HW.out)
  have M3 := M2.kept hb3
  have R3 := R2.kept hb3
  have B3 := bt B2 hb3
  clear M2 R2 B2 hb3 hm3 HM2 m0 m1 m2 m3
  obtain ⟨m0, m1, m2, m3⟩ := M3.c
  go_wp2_with fail
  refine (HO.out _ B3).mono ?_
  rintro e w4 ⟨tv4, bv4, rfl, t4, b4, hb4⟩
  have R4 := R3.kept hb4
  have B4 := bt B3 hb4
  clear M3 R3 B3 m0 m1 m2 m3
  have HT4 := hide t4
  have HBd4 := hide b4
  obtain ⟨_, _, rfl, -⟩ := t4.r
  obtain ⟨_, _, rfl, -⟩ := b4.r
  clear t4 b4
  go_wp2_with fail
  refine (HC.out _ _ _ HT4.out HBd4.out).mono ?_
  rintro e w5 ⟨rfl, hb5⟩
  have R5 := R4.kept hb5
  have B5 := bt B4 hb5
  have BO : Mrel w p r W H tl 0 ((w5.setCell ⟨w.heap.size + 1, 0, none⟩ (ptr p)).setCell ⟨w.heap.size + 1, 1, none⟩ (ptr r)) := by
    obtain ⟨⟨bm, tv, bv, rt, rb, h3⟩, hb13⟩ := HM3.out
    have h5 := (h3.below hb4).below hb5
    have zz := (bt hb13 (bt hb4 hb5)).size
    exact ⟨R5.set _ _, ⟨L, [], bm, 64 * L.length, tv, bv, _, rt, rb, _, h5.box R5 (by omega) (turns_set2 _ _ _ _), HF.out, by simp, by omega⟩, (B5.setCell (p := ⟨w.heap.size + 1, 0, none⟩) (by simp) _).setCell (p := ⟨w.heap.size + 1, 1, none⟩) (by simp) _, by simp [World.setCell]; omega⟩
  have HBO := hide BO
  clear HT4 HBd4 R4 B4 hb4 hb5 BO B5
  obtain ⟨c0, c1, f0, f1⟩ := R5.c
  have kl : (0 : Int) ≤ (K.length : Nat) ∧ ((K.length : Nat) : Int) ≤ 9223372036854775807 := by omega
  clear HO HR HN HC R5
  go_wp2_with fail
  go_loopw [6, 11] (fun s6 s11 wr => s6 = .bool true ∧ ∃ k : Nat, k ≤ K.length ∧ s11 = .int .i64 k ∧ Mrel w p r W H tl k wr) (fun s6 s11 _ => K.length - (intOf s11).toNat)
  case atStart => exact ⟨rfl, 0, Nat.zero_le _, rfl, HBO.out⟩
  case round =>
    obtain ⟨rfl, k, hk, rfl, hM⟩ := hrel
    have HM := hide hM
    obtain ⟨g0, g1, h0, h1⟩ := hM.1.c
    by_cases hlt : k < K.length
    · obtain ⟨t, ht⟩ : ∃ t, K[k]? = some t := ⟨_, List.getElem?_eq_getElem hlt⟩
      obtain ⟨g, o, rfl, hg, d0, d1, d2, d3, d4, d5⟩ := (K3.out k t ht).kept (Nat.le_refl _) hM.2.2.1
      have hki : (k : Int) < (K.length : Nat) := by omega
      have HP : Hid (∀ wx, Below wr.heap.size wr wx → Calls Try.prog 24 #[boV p r, edV t.1 t.2] wx fun e w' => e = .returned (.bool true) ∧ Mrel w p r W H tl (k + 1) w') := hide fun wx hx => HM.out.play hx (by omega)
      clear hM
      have hS : ∀ wx, Below wr.heap.size wr wx → (wx.cell? ⟨w.heap.size + 1, 0, none⟩ = some (ptr p) ∧ wx.cell? ⟨w.heap.size + 1, 1, none⟩ = some (ptr r)) ∧ wx.cell? ⟨g, o + k * 6, none⟩ = some (.bool t.1) ∧ wx.cell? ⟨g, o + k * 6 + 1, none⟩ = some (.int .i64 t.2.id) ∧ wx.cell? ⟨g, o + k * 6 + 2, none⟩ = some (.int .i64 t.2.x) ∧ wx.cell? ⟨g, o + k * 6 + 3, none⟩ = some (.int .i64 t.2.y) ∧ wx.cell? ⟨g, o + k * 6 + 4, none⟩ = some (.int .i64 t.2.a) ∧ wx.cell? ⟨g, o + k * 6 + 5, none⟩ = some (.int .i64 t.2.b) := fun wx hx => by
        have hc := fun o => hx.cell (p := ⟨g, o, none⟩) hg
        have hR := HM.out.1.kept hx
        exact ⟨⟨hR.c.1, hR.c.2.1⟩, (hc _).trans d0, (hc _).trans d1, (hc _).trans d2, (hc _).trans d3, (hc _).trans d4, (hc _).trans d5⟩
      have hS' : ∀ wx, Mrel w p r W H tl (k + 1) wx → (wx.cell? ⟨w.heap.size + 1, 0, none⟩ = some (ptr p) ∧ wx.cell? ⟨w.heap.size + 1, 1, none⟩ = some (ptr r)) ∧ wx.cell? ⟨g, o + k * 6, none⟩ = some (.bool t.1) ∧ wx.cell? ⟨g, o + k * 6 + 1, none⟩ = some (.int .i64 t.2.id) ∧ wx.cell? ⟨g, o + k * 6 + 2, none⟩ = some (.int .i64 t.2.x) ∧ wx.cell? ⟨g, o + k * 6 + 3, none⟩ = some (.int .i64 t.2.y) ∧ wx.cell? ⟨g, o + k * 6 + 4, none⟩ = some (.int .i64 t.2.a) ∧ wx.cell? ⟨g, o + k * 6 + 5, none⟩ = some (.int .i64 t.2.b) := fun wx hx => by
        obtain ⟨g', o', eg, -, e0, e1, e2, e3, e4, e5⟩ := (K3.out k t ht).kept (Nat.le_refl _) hx.2.2.1
        cases eg
        exact ⟨⟨hx.1.c.1, hx.1.c.2.1⟩, e0, e1, e2, e3, e4, e5⟩
      go_wp2_with fail
      clear g0 g1 h0 h1 d0 d1 d2 d3 d4 d5
      refine wp_only ?_
      refine wp_region_held_drew (S := fun wx => (wx.cell? ⟨w.heap.size + 1, 0, none⟩ = some (ptr p) ∧ wx.cell? ⟨w.heap.size + 1, 1, none⟩ = some (ptr r)) ∧ wx.cell? ⟨g, o + k * 6, none⟩ = some (.bool t.1) ∧ wx.cell? ⟨g, o + k * 6 + 1, none⟩ = some (.int .i64 t.2.id) ∧ wx.cell? ⟨g, o + k * 6 + 2, none⟩ = some (.int .i64 t.2.x) ∧ wx.cell? ⟨g, o + k * 6 + 3, none⟩ = some (.int .i64 t.2.y) ∧ wx.cell? ⟨g, o + k * 6 + 4, none⟩ = some (.int .i64 t.2.a) ∧ wx.cell? ⟨g, o + k * 6 + 5, none⟩ = some (.int .i64 t.2.b)) (by kernel_rfl) (hS _ (Below.refl _ _).drew) (fun hHeld => ?_)
      refine wpAnyH_take (i := 0) (v := ?_) rfl (by kernel_rfl) (by kernel_rfl) (by kernel_rfl) (fun _ _ _ h => h.elim) (Or.inl ⟨by rfl, ?_⟩) (by assumption) ?_
      rotate_left
      · intro wx hSw
        try dsimp only at hSw
        go_simp
        try with_reducible rfl
      try simp only [Act.put, List.getElem_toArray, List.getElem_cons_zero, List.getElem_cons_succ, List.setIfInBounds_toArray, List.set_cons_zero, List.set_cons_succ]
      refine wpAnyH_take (i := 1) (v := ?_) rfl (by kernel_rfl) (by kernel_rfl) (by kernel_rfl) (fun _ _ _ h => h.elim) (Or.inl ⟨by rfl, ?_⟩) (by assumption) ?_
      rotate_left
      · intro wx hSw
        try dsimp only at hSw
        go_simp
        try with_reducible rfl
      try simp only [Act.put, List.getElem_toArray, List.getElem_cons_zero, List.getElem_cons_succ, List.setIfInBounds_toArray, List.set_cons_zero, List.set_cons_succ]
      refine wpAnyH_take (i := 2) (v := ?_) rfl (by kernel_rfl) (by kernel_rfl) (by kernel_rfl) (fun _ _ _ h => h.elim) (Or.inl ⟨by rfl, ?_⟩) (by assumption) ?_
      rotate_left
      · intro wx hSw
        try dsimp only at hSw
        go_simp
        try with_reducible rfl
      try simp only [Act.put, List.getElem_toArray, List.getElem_cons_zero, List.getElem_cons_succ, List.setIfInBounds_toArray, List.set_cons_zero, List.set_cons_succ]
      refine wpAnyH_take (i := 3) (v := ?_) rfl (by kernel_rfl) (by kernel_rfl) (by kernel_rfl) (fun _ _ _ h => h.elim) (Or.inl ⟨by rfl, ?_⟩) (by assumption) ?_
      rotate_left
      · intro wx hSw
        try dsimp only at hSw
        go_simp
        try with_reducible rfl
      try simp only [Act.put, List.getElem_toArray, List.getElem_cons_zero, List.getElem_cons_succ, List.setIfInBounds_toArray, List.set_cons_zero, List.set_cons_succ]
      refine wpAnyH_take (i := 4) (v := ?_) rfl (by kernel_rfl) (by kernel_rfl) (by kernel_rfl) (fun _ _ _ h => h.elim) (Or.inl ⟨by rfl, ?_⟩) (by assumption) ?_
      rotate_left
      · intro wx hSw
        try dsimp only at hSw
        go_simp
        try with_reducible rfl
      try simp only [Act.put, List.getElem_toArray, List.getElem_cons_zero, List.getElem_cons_succ, List.setIfInBounds_toArray, List.set_cons_zero, List.set_cons_succ]
      refine wpAnyH_ready (rs := [5]) (by kernel_rfl) (by simp) ?_
      refine AllReadyH.cons rfl (fun K hK => ?_) ?_
      · go_simp
        refine (HP.out _ (Below.refl _ _).drew).mono ?_
        rintro e v1 ⟨rfl, hM1⟩
        have HM1 := hide hM1
        clear hM1
        try go_wp2_with fail
        refine hK.out _ _ ?_ (fun hHeld => ?_)
        · first | exact hS _ (Below.refl _ _).drew | exact hS' _ HM1.out
        clear hK K
        try simp only [Act.put, List.getElem_toArray, List.getElem_cons_zero, List.getElem_cons_succ, List.setIfInBounds_toArray, List.set_cons_zero, List.set_cons_succ]
        refine wpAnyH_take (i := 6) (v := ?_) rfl (by kernel_rfl) (by kernel_rfl) (by kernel_rfl) (fun _ _ _ h => h.elim) (Or.inl ⟨by rfl, ?_⟩) (by assumption) ?_
        rotate_left
        · intro wx hSw
          try dsimp only at hSw
          go_simp
          try with_reducible rfl
        try simp only [Act.put, List.getElem_toArray, List.getElem_cons_zero, List.getElem_cons_succ, List.setIfInBounds_toArray, List.set_cons_zero, List.set_cons_succ]
        refine wpAnyH_done (by kernel_rfl) ?_ _
        show Exit.inBlock 1 _ Exit.normal _ _
        go_wp2_with fail
        go_roundw
        case rel => exact ⟨rfl, k + 1, by omega, by go_num, HM1.out⟩
        case measure => simp [intOf]; omega
      exact AllReadyH.nil
    · have hki : ¬ (k : Int) < (K.length : Nat) := by omega
      have R7 := hM.1.set (ptr p) (ptr r)
      obtain ⟨g2, g3, -, -⟩ := R7.c
      clear hM R7
      go_wp2_with fail
      refine bodyPost_ret (v := .tuple #[boV p r, .bool true, .bool true]) (by simp [results, Try.results8, go_sem, g2, g3]) rfl ⟨p, r, rfl, k, HM.out.box, by omega⟩
end Go.Proofs.Ytobjadfchpgjeaa
