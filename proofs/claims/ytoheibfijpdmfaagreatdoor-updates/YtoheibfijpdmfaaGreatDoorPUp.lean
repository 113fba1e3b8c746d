/-
  Both worlds side by side through an edit; what an edit may turn; edits in a slice. slices.Equal of numbers; Update of parts. All that PartsUpdates keeps: both worlds side by side, the parts of the world as it was at the last Update; behind an edit, behind Update. PartsUpdates: a map, a shape and edits; each edit with both worlds, then Update. PartsUpdates where the map, the shape and the numbers are good. A slice of edits as an argument.
-/
import Derived.Test.YtoheibfijpdmfaaGreatDoorUR
import Derived.Test.YtoheibfijpdmfaaGreatDoorUA
import Derived.Test.YtoheibfijpdmfaaGreatDoorGPlace
import Derived.Test.YtoheibfijpdmfaaGreatDoorPRight
import Derived.Test.YtoheibfijpdmfaaGreatDoorMapOpens
set_option linter.unusedSimpArgs false
namespace Go.Proofs.YtoheibfijpdmfaaGreatDoor
open Go.RowKit Go.Shelf
set_option linter.unusedSectionVars false
variable [DecCn : ∀ (St : Nat → Bool) (Ad : Nat → Nat → Prop) (k i : Nat), Decidable (Cn St Ad k i)]
set_option linter.unusedVariables false
/-- The blocks that an edit may turn. -/
def TT (q r bm : Nat) (bv ev rb re : Value) (k : Nat) : Prop := (k = q ∨ k = bm ∨ bv.ownBlock = some k ∨ ev.ownBlock = some k) ∨ (k = r ∨ rb.ownBlock = some k ∨ re.ownBlock = some k)
section
variable {N : Nat} {w w' : World} {p r : Nat} {W H : Int} {tl : List Nat} {l : List Bd} {es : List Rc} {bm n : Nat} {tv bv ev rt rb re : Value}
theorem row_type {e : TypeId} {size m : Nat} {v : Value} {xs : List Value} {k : Nat} {cs : Array Value} {t : TypeId} (h : w.ownsRow 0 e size v m xs) (hv : v.ownBlock = some k) (hk : w.heap[k]? = some (.cells cs t (0, 0))) : t = e := by
  rcases h.2 with ⟨rfl, _⟩ | ⟨g, cap, cur, rfl, hb, hg, _⟩
  · simp [Value.ownBlock] at hv
  · simp [Value.ownBlock] at hv
    subst hv
    rw [hk] at hg
    simp at hg
    exact hg.2
/-- What is of another kind is none of them. -/
theorem BoAt.other (h : BoAt N w p r W H tl l es bm n tv bv ev rt rb re) {k : Nat} {cs : Array Value} {t : TypeId} (hk : w.heap[k]? = some (.cells cs t (0, 0))) (h1 : t ≠ 92) (h2 : t ≠ 96) (h3 : t ≠ 50) (h4 : t ≠ 48 ∨ (ev.ownBlock ≠ some k ∧ re.ownBlock ≠ some k)) : ¬ TT p r bm bv ev rb re k := by
  rintro ((q | q | q | q) | (q | q | q))
  · subst q
    have a : w.heap[k]? = _ := h.d
    rw [hk] at a
    simp at a
    exact h1 a.2
  · subst q
    obtain ⟨D, ⟨es', clock, a, -⟩, -⟩ := h.f
    rw [hk] at a
    cases a
  · exact h3 (row_type h.b q hk)
  · rcases h4 with h4 | h4
    · exact h4 (row_type h.e q hk)
    · exact h4.1 q
  · subst q
    have a : w.heap[k]? = _ := h.d'
    rw [hk] at a
    simp at a
    exact h2 a.2
  · exact h3 (row_type h.b' q hk)
  · rcases h4 with h4 | h4
    · exact h4 (row_type h.e' q hk)
    · exact h4.2 q
/-- What is known of the buildings and the edits behind an edit. -/
def EdOf (W H : Int) (l : List Bd) (es : List Rc) (l' : List Bd) (es' : List Rc) : Prop :=
  (es' = es ∧ l' = l) ∨ ∃ rc, es' = es ++ [rc] ∧ wi rc.x rc.y rc.a rc.b 0 0 W H = true ∧ ∀ x y : Int, ¬ (rc.x ≤ x ∧ x ≤ rc.x + rc.a - 1 ∧ rc.y ≤ y ∧ y ≤ rc.y + rc.b - 1) → whoF l x y = whoF l' x y
def Done (N : Nat) (w : World) (p r : Nat) (W H : Int) (tl : List Nat) (l : List Bd) (es : List Rc) (bm n : Nat) (tv bv ev rt rb re : Value) (w' : World) : Prop :=
  ∃ l' es' n' bv' ev' rb' re', (BoAt N w' p r W H tl l' es' bm n' tv bv' ev' rt rb' re' ∧ Fine W H l' ∧ n' ≤ n + 64 ∧ es'.length ≤ es.length + 1) ∧ EdOf W H l es l' es' ∧ Turns (TT p r bm bv ev rb re) w w' ∧
    (∀ k, ev'.ownBlock = some k → ev.ownBlock = some k ∨ w.heap.size ≤ k) ∧ (∀ k, re'.ownBlock = some k → re.ownBlock = some k ∨ w.heap.size ≤ k)
theorem mb_wi {t : Bd} (h : mb W H t = true) : wi t.foot.x t.foot.y t.foot.a t.foot.b 0 0 W H = true := by
  simp only [mb, Bool.and_eq_true] at h
  exact h.2.2.2.2
theorem tt1 {k : Nat} (h : k = p ∨ k = bm ∨ bv.ownBlock = some k ∨ ev.ownBlock = some k) : TT p r bm bv ev rb re k := .inl h
theorem tt2 {k : Nat} (h : k = r ∨ rb.ownBlock = some k ∨ re.ownBlock = some k) : TT p r bm bv ev rb re k := .inr h
theorem does_any (z : Bool) (t : Bd) (h : BoAt N w p r W H tl l es bm n tv bv ev rt rb re) (hF : Fine W H l) (hN : N ≤ w.heap.size) (hn : n + 64 ≤ maxLen) (hes : (es.length + 1) * 32 ≤ 140737488355328) :
    Calls Tryz.prog 9 #[ptr p, ptr r, edV z t] w fun e w' => (∃ v, e = .returned v) ∧ Done N w p r W H tl l es bm n tv bv ev rt rb re w' := by
  have noEB : ∀ {X : World} {z : Bool}, BoAt N X p r W H tl l es bm n tv bv ev rt rb re → EB X w.heap.size z t → ¬ TT p r bm bv ev rb re w.heap.size := fun hX hE => hX.other hE (by decide) (by decide) (by decide) (.inl (by decide))
  cases z
  · have hcr := code_ref W H l t
    refine does_place w p r t _ (fun X B0 P0 => ?_)
    have HX := h.below B0
    have zX := B0.size
    by_cases hc : refcode W H l t = 0
    · have hc' : code W H (whoF l) l t = 0 := hcr.trans hc
      refine (place_yes p bm n W H tv bv ev (whoF l) l es t X HX.d HX.f HX.b HX.e hF.sorted hF.len hn hes hc').mono ?_
      rintro e w1 ⟨rfl, bv', ev', q1, q2, q3, q4, q5, q6, q7⟩
      rw [who_ins (refcode_zero hc).2.2.2] at q3
      refine ⟨⟨_, rfl⟩, q5.same (fun hq => noEB HX P0 (tt1 hq)) P0, ?_⟩
      have doc := HX.doc q5
      have zx := q5.size
      refine (refplacew_yes r W H rt rb re l es t w1 doc.1 doc.2.2.1 doc.2.2.2 hF.sorted hF.len hes hc).mono ?_
      rintro e w3 ⟨rfl, rb', re', u1, u2, u3, u4, u5, u6⟩
      have two := HX.two (by omega) q1 q2 q3 q4 q5 q6 q7 u1 u2 u3 u4 u5 u6
      refine ⟨⟨_, rfl⟩, ins l t, es ++ [t.foot], n + 64, bv', ev', rb', re', ⟨two.1, hF.ins hc, by omega, by simp⟩, .inr ⟨t.foot, rfl, mb_wi (refcode_zero hc).1, fun x y hxy => apt_ins (refcode_zero hc).2.2.2 x y hxy⟩, ?_, fun k e => (q7 k e).imp id (fun h => by omega), fun k e => (u6 k e).imp id (fun h => by omega)⟩
      exact ((Turns.of_below B0).trans (q5.mono (fun k _ hq => .inl (tt1 hq)))).trans (u4.mono (fun k _ hq => .inl (tt2 hq)))
    · have hc' : code W H (whoF l) l t ≠ 0 := fun e => hc (hcr.symm.trans e)
      refine (place_no p bm n W H tv bv ev (whoF l) l t X HX.d HX.f HX.b hF.sorted hF.len hc').mono ?_
      rintro e w1 ⟨rfl, hb1⟩
      refine ⟨⟨_, rfl⟩, P0.kept hb1, ?_⟩
      have H1 := HX.below hb1
      refine (refplacew_no r W H rt rb re l t w1 H1.d' H1.b' hF.sorted hF.len hc).mono ?_
      rintro e w3 ⟨rfl, hb3⟩
      exact ⟨⟨_, rfl⟩, l, es, n, bv, ev, rb, re, ⟨H1.below hb3, hF, by omega, by omega⟩, .inl ⟨rfl, rfl⟩, Turns.of_below (bt B0 (bt hb1 hb3)), fun k e => .inl e, fun k e => .inl e⟩
  · refine does_raze w p r t _ (fun X B0 P0 => ?_)
    have HX := h.below B0
    have zX := B0.size
    cases hf : found l t.id
    · refine (raze_no p bm W H tv bv ev l t.id X HX.d HX.b hF.sorted hF.len hf).mono ?_
      rintro e w1 ⟨rfl, hb1⟩
      refine ⟨⟨_, _, _, _, _, rfl⟩, P0.kept hb1, ?_⟩
      have H1 := HX.below hb1
      refine (refraze_no r W H rt rb re l t.id w1 H1.d' H1.b' hF.sorted hF.len hf).mono ?_
      rintro e w3 ⟨rfl, hb3⟩
      exact ⟨⟨_, _, _, _, _, rfl⟩, l, es, n, bv, ev, rb, re, ⟨H1.below hb3, hF, by omega, by omega⟩, .inl ⟨rfl, rfl⟩, Turns.of_below (bt B0 (bt hb1 hb3)), fun k e => .inl e, fun k e => .inl e⟩
    · obtain ⟨s, hs, -⟩ := (found_iff hF.sorted t.id).1 hf
      refine (raze_yes p bm n W H tv bv ev (whoF l) l es t.id s X HX.d HX.f HX.b HX.e hF.sorted hF.len hes hf hs).mono ?_
      rintro e w1 ⟨rfl, bv', ev', q1, q2, q3, q4, q5, q6, q7⟩
      rw [who_del hs hF.apart] at q3
      refine ⟨⟨_, _, _, _, _, rfl⟩, q5.same (fun hq => noEB HX P0 (tt1 hq)) P0, ?_⟩
      have doc := HX.doc q5
      have zx := q5.size
      refine (refraze_yes r W H rt rb re l es t.id s w1 doc.1 doc.2.2.1 doc.2.2.2 hF.sorted hF.len hes hf hs).mono ?_
      rintro e w3 ⟨rfl, rb', re', u1, u2, u3, u4, u5, u6⟩
      have T2 : Turns (fun k => k = r ∨ rb.ownBlock = some k ∨ re.ownBlock = some k) w1 w3 := u4.mono (fun k _ e => e.imp id Or.inr)
      have two := HX.two (by omega) q1 q2 q3 q4 q5 q6 q7 u1 u2 u3 T2 (fun k e => .inr (u5 k e)) u6
      refine ⟨⟨_, _, _, _, _, rfl⟩, del l (pos l t.id), es ++ [s.foot], n, bv', ev', rb', re', ⟨two.1, hF.del _, by omega, by simp⟩, .inr ⟨s.foot, rfl, mb_wi (hF.all s (List.mem_of_getElem? hs)), fun x y hxy => apt_del hs hF.apart x y hxy⟩, ?_, fun k e => (q7 k e).imp id (fun h => by omega), fun k e => (u6 k e).imp id (fun h => by omega)⟩
      exact ((Turns.of_below B0).trans (q5.mono (fun k _ hq => .inl (tt1 hq)))).trans (T2.mono (fun k _ hq => .inl (tt2 hq)))
end
/-- What is not a world's: boxes of other kinds, bytes that are no world's tiles. -/
def Oth (w : World) (tv rt : Value) (k : Nat) : Prop :=
  ∃ cs t, w.heap[k]? = some (.cells cs t (0, 0)) ∧ t ≠ 92 ∧ t ≠ 96 ∧ t ≠ 50 ∧ t ≠ 48 ∧ (t = 5 → tv.ownBlock ≠ some k ∧ rt.ownBlock ≠ some k)
section
variable {N : Nat} {w w' : World} {q r : Nat} {W H : Int} {tl : List Nat} {l : List Bd} {es : List Rc} {bm n : Nat} {tv bv ev rt rb re : Value}
theorem BoAt.apart {S : Nat → Prop} (h : BoAt N w q r W H tl l es bm n tv bv ev rt rb re) (T : Turns S w w') (hS : ∀ k, S k → Oth w tv rt k) : BoAt N w' q r W H tl l es bm n tv bv ev rt rb re := by
  have row : ∀ {e : TypeId} {size m : Nat} {v : Value} {xs : List Value}, w.ownsRow 0 e size v m xs → (e = 50 ∨ e = 48) → ∀ k, v.ownBlock = some k → ¬ S k := fun hr he k hv hs => by
    obtain ⟨cs, t, h0, h1, h2, h3, h4, h5⟩ := hS k hs
    have := row_type hr hv h0
    rcases he with he | he
    · exact h3 (this.trans he)
    · exact h4 (this.trans he)
  have hq : ¬ S q := fun hs => by
    obtain ⟨cs, t, h0, h1, h2, h3, h4, h5⟩ := hS q hs
    have a : w.heap[q]? = _ := h.d
    rw [h0] at a
    simp at a
    exact h1 a.2
  have hr : ¬ S r := fun hs => by
    obtain ⟨cs, t, h0, h1, h2, h3, h4, h5⟩ := hS r hs
    have a : w.heap[r]? = _ := h.d'
    rw [h0] at a
    simp at a
    exact h2 a.2
  have hm : ¬ S bm := fun hs => by
    obtain ⟨cs, t, h0, -⟩ := hS bm hs
    obtain ⟨D, ⟨es', clock, a, -⟩, -⟩ := h.f
    rw [h0] at a
    cases a
  have ht : ∀ k, tv.ownBlock = some k → ¬ S k := fun k hv hs => by
    obtain ⟨cs, t, h0, h1, h2, h3, h4, h5⟩ := hS k hs
    exact (h5 (row_type h.t hv h0)).1 hv
  have ht' : ∀ k, rt.ownBlock = some k → ¬ S k := fun k hv hs => by
    obtain ⟨cs, t, h0, h1, h2, h3, h4, h5⟩ := hS k hs
    exact (h5 (row_type h.t' hv h0)).2 hv
  exact { h with d := h.d.kept T hq, t := h.t.kept T ht, b := h.b.kept T (row h.b (.inl rfl)), f := h.f.kept T hm, e := h.e.kept T (row h.e (.inr rfl)), d' := h.d'.kept T hr, t' := h.t'.kept T ht', b' := h.b'.kept T (row h.b' (.inl rfl)), e' := h.e'.kept T (row h.e' (.inr rfl)) }
theorem BoAt.wl (h : BoAt N w q r W H tl l es bm n tv bv ev rt rb re) (hm : mt W H tl = true ∧ ∀ n ∈ tl, n < 256) : Wl w q W H tl (whoF l) := ⟨hm, bm, n, tv, bv, ev, h.d, h.t, h.f⟩
theorem BoAt.rl (h : BoAt N w q r W H tl l es bm n tv bv ev rt rb re) (hm : mt W H tl = true ∧ ∀ n ∈ tl, n < 256) (hl : l.length ≤ 256) : Rl w r W H tl l := ⟨⟨hm, hl⟩, rt, rb, re, h.d', h.t', h.b'⟩
theorem BoAt.ep (h : BoAt N w q r W H tl l es bm n tv bv ev rt rb re) : Ep w q es.length := by
  obtain ⟨a, cap, e, -⟩ := id h.e.rcb
  exact ⟨W, H, tv, bv, bm, a, cap, e ▸ h.d⟩
end
/-- An edit of a list of edits. -/
def EdAtR (w : World) (a : Option Addr) (i : Nat) (t : Bool × Bd) : Prop :=
  ∃ g o, a = some ⟨g, o, none⟩ ∧ g < w.heap.size ∧ w.cell? ⟨g, o + i * 6, none⟩ = some (.bool t.1) ∧ w.cell? ⟨g, o + i * 6 + 1, none⟩ = some (.int .i64 t.2.id) ∧ w.cell? ⟨g, o + i * 6 + 2, none⟩ = some (.int .i64 t.2.x) ∧ w.cell? ⟨g, o + i * 6 + 3, none⟩ = some (.int .i64 t.2.y) ∧ w.cell? ⟨g, o + i * 6 + 4, none⟩ = some (.int .i64 t.2.a) ∧ w.cell? ⟨g, o + i * 6 + 5, none⟩ = some (.int .i64 t.2.b)
theorem EdAtR.kept {w w' : World} {a : Option Addr} {i : Nat} {t : Bool × Bd} {N : Nat} (h : EdAtR w a i t) (hN : w.heap.size ≤ N) (hb : Below N w w') : EdAtR w' a i t := by
  obtain ⟨g, o, e1, e2, c0, c1, c2, c3, c4, c5⟩ := h
  have hc := fun o => hb.cell (p := ⟨g, o, none⟩) (Nat.lt_of_lt_of_le e2 hN)
  exact ⟨g, o, e1, Nat.lt_of_lt_of_le e2 hb.size, (hc _).trans c0, (hc _).trans c1, (hc _).trans c2, (hc _).trans c3, (hc _).trans c4, (hc _).trans c5⟩
/-- The slice v, wherever it begins, reads as the edits l. -/
def EdR (w : World) (v : Value) (l : List (Bool × Bd)) : Prop :=
  ∃ a cap, v = .slice a l.length cap ∧ l.length ≤ cap ∧ ∀ i t, l[i]? = some t → EdAtR w a i t
section
variable {N : Nat} {w w' : World} {q r : Nat} {W H : Int} {tl : List Nat} {l : List Bd} {es : List Rc} {bm n : Nat} {tv bv ev rt rb re : Value}
theorem BoAt.ge (h : BoAt N w q r W H tl l es bm n tv bv ev rt rb re) {k : Nat} (hk : TT q r bm bv ev rb re k) : N ≤ k := by
  rcases hk with (rfl | rfl | e | e) | (rfl | e | e)
  · exact h.np
  · exact h.nm
  · exact h.nb k e
  · exact h.ne k e
  · exact h.nr
  · exact h.nb' k e
  · exact h.ne' k e
end
section
variable {w : World}
theorem ne_of_type {k j : Nat} {cs ds : Array Value} {s t : TypeId} (h1 : w.heap[k]? = some (.cells cs s (0, 0))) (h2 : w.heap[j]? = some (.cells ds t (0, 0))) (hst : s ≠ t) : k ≠ j := fun e => by
  subst e
  rw [h1] at h2
  simp at h2
  exact hst h2.2
end
end Go.Proofs.YtoheibfijpdmfaaGreatDoor
set_option linter.unusedSimpArgs false
namespace Go.Proofs.YtoheibfijpdmfaaGreatDoor
open Go.RowKit Go.Shelf
set_option linter.unusedSectionVars false
variable [DecCn : ∀ (St : Nat → Bool) (Ad : Nat → Nat → Prop) (k i : Nat), Decidable (Cn St Ad k i)]
set_option linter.unusedVariables false
/-- Two rows of numbers are alike. -/
def eqN (N : Nat) (L M : Nat → Nat) : Bool := decide (∀ i, i < N → L i = M i)
set_option maxRecDepth 100000 in
set_option maxHeartbeats 4000000 in
theorem equal_any {w : World} {b c N : Nat} {L M : Nat → Nat} (hN2 : N ≤ 16384) (h1 : Nms w b N L) (h2 : Nms w c N M) : Calls Tryz.prog 29 #[sl b N, sl c N] w fun e w' => e = .returned (.bool (eqN N L M)) ∧ Below w.heap.size w w' := by
  have HK : Hid (∀ wx, Below w.heap.size w wx → Nms wx b N L ∧ Nms wx c N M) := hide fun wx hx => ⟨h1.upto hx, h2.upto hx⟩
  obtain ⟨r, hr⟩ : ∃ r, eqN N L M = r := ⟨_, rfl⟩
  rw [hr]
  have Hr := hide hr
  have hNI : ((N : Nat) : Int) ≤ 16384 := by omega
  clear h1 h2 hr
  go_enter Tryz.func29, Tryz.ntmps29
  go_wp2_with fail
  go_loopw [13] (fun d wr => ∃ i : Nat, d = .int .i64 (i : Nat) ∧ i ≤ N ∧ (∀ j, j < i → L j = M j) ∧ Below w.heap.size w wr) (fun d _ => N - (intOf d).toNat)
  case atStart => exact ⟨0, rfl, Nat.zero_le _, fun j hj => by omega, Below.refl _ _⟩
  case round =>
    obtain ⟨i, rfl, hi, hE, hB⟩ := hrel
    by_cases hlt : i < N
    · have hli : ((i : Nat) : Int) < (N : Nat) := by omega
      have hiI : (0 : Int) ≤ (i : Nat) ∧ ((i : Nat) : Int) ≤ 16384 := by omega
      obtain ⟨u, hu⟩ : ∃ u, L i = u := ⟨_, rfl⟩
      obtain ⟨v, hv⟩ : ∃ v, M i = v := ⟨_, rfl⟩
      have c1 : ∀ m : Lat wr, m.w.cell? ⟨b, i, none⟩ = some (.int .i64 (u : Nat)) := fun m => by rw [← hu]; exact (HK.out _ (bt hB m.h)).1.c hlt
      have c2 : ∀ m : Lat wr, m.w.cell? ⟨c, i, none⟩ = some (.int .i64 (v : Nat)) := fun m => by rw [← hv]; exact (HK.out _ (bt hB m.h)).2.c hlt
      have hne := lat_some wr
      have Hu := hide hu
      have Hv := hide hv
      have HE := hide hE
      have HB := hide hB
      clear hu hv hE hB
      by_cases huv : u = v
      · subst huv
        have HE2 : Hid (∀ j, j < i + 1 → L j = M j) := hide fun j hj => by
          by_cases e : j = i
          · subst e; rw [Hu.out, Hv.out]
          · exact HE.out j (by omega)
        go_wp2_with fail
        refine wp_region_lat (by kernel_rfl) (by kernel_rfl) ?_
        repeat (go_big_quiet_step (fail))
        refine wpQuiet_nil ?_
        rintro _ ⟨m, rfl⟩
        have HBm := hide (bt HB.out m.h)
        clear c1 c2 hne
        go_wp2_with fail
        go_roundw
        case rel => exact ⟨i + 1, by go_num, by omega, HE2.out, HBm.out⟩
        case measure => simp [intOf]; omega
      · have huvI : ¬ ((u : Nat) : Int) = (v : Nat) := by omega
        have hf : r = false := by
          rw [← Hr.out]
          exact decide_eq_false (fun h => huv (by rw [← Hu.out, ← Hv.out]; exact h i hlt))
        have Hf := hide hf
        clear hf
        go_wp2_with fail
        refine wp_region_lat (by kernel_rfl) (by kernel_rfl) ?_
        repeat (go_big_quiet_step (fail))
        refine wpQuiet_nil ?_
        rintro _ ⟨m, rfl⟩
        have HBm := hide (bt HB.out m.h)
        clear c1 c2 hne
        go_wp2_with fail
        go_ret
        exact ⟨by simp [Hf.out], HBm.out⟩
    · have hie : i = N := by omega
      subst hie
      have hli : ¬ ((i : Nat) : Int) < (i : Nat) := by omega
      have hf : r = true := by rw [← Hr.out]; exact decide_eq_true hE
      have Hf := hide hf
      have HB := hide hB
      clear hf hE hB
      go_wp2_with fail
      go_ret
      exact ⟨by simp [Hf.out], HB.out⟩
/-- Where no clearance is other, one stands where one stood. -/
theorem st_same {car car' : Int → Int → Bool} {wd N s : Nat} (hs : s ≤ 4) (h : ∀ k, k < N → clrK car wd k = clrK car' wd k) : stI car wd N s = stI car' wd N s := by
  funext k
  rw [Bool.eq_iff_iff, stI_iff, stI_iff]
  constructor
  · rintro ⟨h1, h2⟩
    refine ⟨h1, ?_⟩
    rw [← clr_ge hs] at h2 ⊢
    have := h k h1
    unfold clrK at this
    omega
  · rintro ⟨h1, h2⟩
    refine ⟨h1, ?_⟩
    rw [← clr_ge hs] at h2 ⊢
    have := h k h1
    unfold clrK at this
    omega
theorem cnt_zero {car : Int → Int → Bool} {wd : Nat} {l : List Nat} : ∀ {m : Nat}, cntK car wd l m = 0 → ∀ k, k < m → l.getD k 0 = clrK car wd k
  | 0, _, k, hk => by omega
  | m + 1, h, k, hk => by
    rw [cntK_succ] at h
    by_cases e : k = m
    · subst e
      by_cases e2 : l.getD k 0 = clrK car wd k
      · exact e2
      · rw [if_neg e2] at h; omega
    · exact cnt_zero (m := m) (by omega) k (by omega)
theorem cnt_same {car car' : Int → Int → Bool} {wd N : Nat} (h : cntK car' wd ((List.range N).map (clrK car wd)) N = 0) : ∀ k, k < N → clrK car wd k = clrK car' wd k := fun k hk => by
  have := cnt_zero h k hk
  rwa [List.getD_eq_getElem?_getD, List.getElem?_map, List.getElem?_range hk] at this
/-- What Update gives. -/
def Ud (w w' : World) (p f q : Nat) (cl : Int) (wd ht N : Nat) (car : Int → Int → Bool) (s b2 m b : Nat) (pv : Value) (b' : Nat) (pv' : Value) : Prop :=
  (Pf w' p f q cl (m : Nat) wd ht car s b2 b' pv' (lb (stI car wd N s) (adI wd) N).1 ∧ Rw 108 3 (cP wd) w' pv' (prS (stI car wd N s) (adI wd) N (lb (stI car wd N s) (adI wd) N).2)) ∧ Turns (fun k => k = b2 ∨ k = f ∨ k = p) w w' ∧ (b' = b ∨ w.heap.size ≤ b') ∧ ∀ g, pv'.ownBlock = some g → pv.ownBlock = some g ∨ w.heap.size ≤ g
set_option maxRecDepth 100000 in
set_option maxHeartbeats 8000000 in
theorem pupd_any {w : World} {p f q e0 m : Nat} {cl : Int} {wd ht N : Nat} {car car' : Int → Int → Bool} {s b2 b : Nat} {pv : Value} (hP : Pf w p f q cl (e0 : Nat) wd ht car s b2 b pv (lb (stI car wd N s) (adI wd) N).1) (hR : Rw 108 3 (cP wd) w pv (prS (stI car wd N s) (adI wd) N (lb (stI car wd N s) (adI wd) N).2))
    (hwd : (1 ≤ wd ∧ wd ≤ 128) ∧ 1 ≤ ht ∧ ht ≤ 128) (hN : N = wd * ht) (hs : 1 ≤ s ∧ s ≤ 4) (hcar : ∀ x y, car' x y = true → has 0 0 (wd : Int) (ht : Int) x y = true)
    (hU : Calls Tryz.prog 28 #[ptr f] w fun x w' => x = .returned (.tuple #[.int .i64 (cntK car' wd ((List.range N).map (clrK car wd)) N : Nat), .int .i64 0]) ∧ (Fd w' f q cl wd ht b2 (wd * ht) (m : Nat) ∧ Szs w' b2 ((List.range (wd * ht)).map (clrK car' wd))) ∧ Turns (fun k => k = b2 ∨ k = f) w w')
    (hO : ∀ Y, Turns (fun k => k = b2 ∨ k = f ∨ k = p) w Y → Offs Y) :
    Calls Tryz.prog 10 #[ptr p] w fun e w' => ∃ (b' : Nat) (pv' : Value), e = .returned (.tuple #[.bool (!eqN N (lb (stI car wd N s) (adI wd) N).1 (lb (stI car' wd N s) (adI wd) N).1), .int .i64 0]) ∧ Ud w w' p f q cl wd ht N car' s b2 m b pv b' pv' := by
  have hN2 : N ≤ 16384 := by have := Nat.mul_le_mul hwd.1.2 hwd.2.2; omega
  have HM := hide (pmade_is hP.pd)
  obtain ⟨⟨n1, n2, n3⟩, n4, n5⟩ := hP.ne
  have c0 : w.cell? ⟨p, 0, none⟩ = some (ptr f) := hP.pd.c 0
  have HU := hide hU
  have HO := hide hO
  have HP := hide hP
  have HR := hide hR
  have HN := hide hN
  have HCar := hide hcar
  obtain ⟨cn, hcn⟩ : ∃ cn, cntK car' wd ((List.range N).map (clrK car wd)) N = cn := ⟨_, rfl⟩
  rw [hcn] at HU
  have hcnN : cn ≤ N := by
    rw [← hcn]
    have := List.length_filter_le (fun k => decide (((List.range N).map (clrK car wd)).getD k 0 ≠ clrK car' wd k)) (List.range N)
    simpa [cntK] using this
  have Hcn := hide hcn
  obtain ⟨rb, hrb⟩ : ∃ rb, eqN N (lb (stI car wd N s) (adI wd) N).1 (lb (stI car' wd N s) (adI wd) N).1 = rb := ⟨_, rfl⟩
  rw [hrb]
  have Hrb := hide hrb
  clear hU hO hP hR hN hcar hcn hrb
  go_enter Tryz.func10, Tryz.ntmps10
  go_wp2_with fail
  refine HM.out.mono ?_
  rintro e w0 ⟨rfl, hw0⟩
  have hw9 := hw0.symm
  subst hw9
  clear hw0
  go_wp2_with fail
  refine HU.out.mono ?_
  rintro e w1 ⟨rfl, ⟨hd, hz⟩, T⟩
  have P1 := HP.out.pd.kept T (by rintro (e | e); exact n5 e; exact n4 e)
  have N1 := HP.out.nm.kept T (by rintro (e | e); exact n3 e; exact n2 e)
  have R1 := HR.out.kept T (fun g hg => by rintro (e | e); exact HR.out.ne hg HP.out.sz (by decide) e; exact HR.out.ne hg HP.out.fd (by decide) e)
  have T3 : Turns (fun k => k = b2 ∨ k = f ∨ k = p) w w1 := T.mono (fun k _ h => h.elim .inl (fun h => .inr (.inl h)))
  clear c0 HU HM
  by_cases hz0 : cn = 0
  · subst hz0
    have hcs := cnt_same Hcn.out
    have hst : stI car wd N s = stI car' wd N s := st_same hs.2 hcs
    have hrt : rb = true := by rw [← Hrb.out, hst]; exact decide_eq_true (fun _ _ => rfl)
    have HUd : Hid (Ud w w1 p f q cl wd ht N car' s b2 m b pv b pv) := hide (by
      refine ⟨⟨⟨P1, hd, hz, ?_⟩, ?_⟩, T3, .inl rfl, fun g hg => .inl hg⟩
      · rw [← hst]; exact N1
      · rw [← hst]; exact R1)
    have Hrt := hide hrt
    clear hd hz T P1 N1 R1 T3 hcs hst hrt
    go_wp2_with fail
    go_ret2
    exact ⟨b, pv, by rw [Hrt.out]; rfl, HUd.out⟩
  · have hz1 : ¬ ((cn : Nat) : Int) = 0 := by omega
    have c6 : w1.cell? ⟨p, 6, none⟩ = some (sl b (wd * ht)) := P1.c 6
    rw [← HN.out] at c6
    have HPr := hide (prec_any (N := N) P1 hd hz hwd HN.out hs HCar.out (fun Y hY => HO.out Y (T3.trans (hY.mono (fun k _ e => .inl (.inr (.inr e)))))))
    have HN1 := hide N1
    have HT3 := hide T3
    have hw1s := T3.size
    clear hd hz T P1 N1 R1 T3
    go_wp2_with fail
    refine HPr.out.mono ?_
    rintro e w2 ⟨b', pv', rfl, hRk⟩
    have c62 : w2.cell? ⟨p, 6, none⟩ = some (sl b' (wd * ht)) := hRk.pf.pd.c 6
    rw [← HN.out] at c62
    have N2 := HN1.out.kept hRk.tu n1
    have N3 := hRk.pf.nm
    rw [← HN.out] at N2 N3
    have HEq := hide (equal_any hN2 N2 N3)
    rw [Hrb.out] at HEq
    have HRk := hide hRk
    clear c6 HPr hRk N2 N3
    go_wp2_with fail
    refine HEq.out.mono ?_
    rintro e w3 ⟨rfl, hb3⟩
    have HUd : Hid (Ud w w3 p f q cl wd ht N car' s b2 m b pv b' pv') := hide (by
      have h3 := HRk.out.upto hb3
      refine ⟨⟨h3.pf, h3.row⟩, HT3.out.trans (h3.tu.mono (fun k _ e => .inl (.inr (.inr e)))), .inr (Nat.le_trans hw1s h3.hb), fun g hg => .inr (Nat.le_trans hw1s (h3.own g hg))⟩)
    clear hb3 c62 HEq
    go_wp2_with fail
    go_ret2
    exact ⟨b', pv', rfl, HUd.out⟩
end Go.Proofs.YtoheibfijpdmfaaGreatDoor
set_option linter.unusedSimpArgs false
namespace Go.Proofs.YtoheibfijpdmfaaGreatDoor
open Go.RowKit Go.Shelf
set_option linter.unusedSectionVars false
variable [DecCn : ∀ (St : Nat → Bool) (Ad : Nat → Nat → Prop) (k i : Nat), Decidable (Cn St Ad k i)]
set_option linter.unusedVariables false
/-- The numbers of a world with these buildings. -/
def lbl (wd ht N : Nat) (tl : List Nat) (cl : Int) (s : Nat) (l : List Bd) : (Nat → Nat) × List Nat := lb (stI (carB wd ht tl (whoF l) cl) wd N s) (adI wd) N
structure Up (Nb : Nat) (w : World) (p f q r A : Nat) (cl : Int) (wd ht N : Nat) (tl : List Nat) (s b2 b : Nat) (pv : Value) (l0 : List Bd) (e0 : Nat) (l : List Bd) (es : List Rc) (bm n : Nat) (tv bv ev rt rb re : Value) : Prop where
  bo : BoAt Nb w q r wd ht tl l es bm n tv bv ev rt rb re
  fine : Fine wd ht l
  pf : Pf w p f q cl (e0 : Nat) wd ht (carB wd ht tl (whoF l0) cl) s b2 b pv (lbl wd ht N tl cl s l0).1
  row : Rw 108 3 (cP wd) w pv (prS (stI (carB wd ht tl (whoF l0) cl) wd N s) (adI wd) N (lbl wd ht N tl cl s l0).2)
  sh : w.heap[A]? = some (.cells #[.int .i64 cl, .int .i64 (s : Nat)] 27 (0, 0))
  nb : tv.ownBlock ≠ some b2 ∧ rt.ownBlock ≠ some b2
  le : e0 ≤ es.length
  ap : Apt (whoF l0) (whoF l) (es.drop e0)
  wi : ∀ r ∈ es.drop e0, wi r.x r.y r.a r.b 0 0 wd ht = true
  nN : Nb ≤ p ∧ Nb ≤ f ∧ Nb ≤ b2 ∧ Nb ≤ w.heap.size
section
variable {Nb : Nat} {w w' : World} {p f q r A : Nat} {cl : Int} {wd ht N : Nat} {tl : List Nat} {s b2 b : Nat} {pv : Value} {l0 l : List Bd} {e0 : Nat} {es : List Rc} {bm n : Nat} {tv bv ev rt rb re : Value}
theorem Up.below (h : Up Nb w p f q r A cl wd ht N tl s b2 b pv l0 e0 l es bm n tv bv ev rt rb re) (hb : Below w.heap.size w w') : Up Nb w' p f q r A cl wd ht N tl s b2 b pv l0 e0 l es bm n tv bv ev rt rb re :=
  { h with bo := h.bo.below hb, pf := h.pf.upto hb, row := h.row.upto hb, sh := (hb.block A (Array.getElem?_eq_some_iff.1 h.sh).1).trans h.sh, nN := ⟨h.nN.1, h.nN.2.1, h.nN.2.2.1, Nat.le_trans h.nN.2.2.2 hb.size⟩ }
theorem Up.does (h : Up Nb w p f q r A cl wd ht N tl s b2 b pv l0 e0 l es bm n tv bv ev rt rb re) (hD : Done Nb w q r wd ht tl l es bm n tv bv ev rt rb re w') :
    ∃ l' es' n' bv' ev' rb' re', Up Nb w' p f q r A cl wd ht N tl s b2 b pv l0 e0 l' es' bm n' tv bv' ev' rt rb' re' ∧ (n' ≤ n + 64 ∧ es'.length ≤ es.length + 1) ∧ (∀ (k : Nat) (cs : Array Value), w.heap[k]? = some (.cells cs 3 (0, 0)) → w'.heap[k]? = w.heap[k]?) ∧ Turns (TT q r bm bv ev rb re) w w' := by
  obtain ⟨l', es', n', bv', ev', rb', re', ⟨h1, h2, h3, h4⟩, h5, T, h6, h7⟩ := hD
  have hk3 : ∀ (k : Nat) (cs : Array Value), w.heap[k]? = some (.cells cs 3 (0, 0)) → ¬ TT q r bm bv ev rb re k := fun k cs hk => h.bo.other hk (by decide) (by decide) (by decide) (.inl (by decide))
  have np : ¬ TT q r bm bv ev rb re p := h.bo.other h.pf.pd (by decide) (by decide) (by decide) (.inl (by decide))
  have nf : ¬ TT q r bm bv ev rb re f := h.bo.other h.pf.fd (by decide) (by decide) (by decide) (.inl (by decide))
  have n2 : ¬ TT q r bm bv ev rb re b2 := h.bo.other h.pf.sz (by decide) (by decide) (by decide) (.inl (by decide))
  have nA : ¬ TT q r bm bv ev rb re A := h.bo.other h.sh (by decide) (by decide) (by decide) (.inl (by decide))
  have z := T.size
  have hn := h.nN
  refine ⟨l', es', n', bv', ev', rb', re', ⟨h1, h2, ⟨h.pf.pd.kept T np, h.pf.fd.kept T nf, h.pf.sz.kept T n2, h.pf.nm.kept T (hk3 _ _ h.pf.nm)⟩, h.row.kept T (fun g hg => ?_), T.same nA h.sh, h.nb, ?_, ?_, ?_, ⟨hn.1, hn.2.1, hn.2.2.1, by omega⟩⟩, ⟨h3, h4⟩, fun k cs hk => T.block k (Array.getElem?_eq_some_iff.1 hk).1 (hk3 k cs hk), T⟩
  · obtain ⟨c, hc⟩ := h.row.blk hg
    exact h.bo.other hc (by decide) (by decide) (by decide) (.inl (by decide))
  · have := h.le
    rcases h5 with ⟨rfl, -⟩ | ⟨rc, rfl, -⟩
    · exact this
    · rw [List.length_append]; omega
  · rcases h5 with ⟨rfl, rfl⟩ | ⟨rc, rfl, -, hx⟩
    · exact h.ap
    · rw [List.drop_append_of_le_length h.le]
      exact h.ap.snoc hx
  · rcases h5 with ⟨rfl, rfl⟩ | ⟨rc, rfl, hw, hx⟩
    · exact h.wi
    · rw [List.drop_append_of_le_length h.le]
      intro x hx
      rcases List.mem_append.1 hx with hx | hx
      · exact h.wi x hx
      · obtain rfl := List.mem_singleton.1 hx
        exact hw
theorem Up.oth (h : Up Nb w p f q r A cl wd ht N tl s b2 b pv l0 e0 l es bm n tv bv ev rt rb re) {k : Nat} (hk : k = b2 ∨ k = f ∨ k = p) : Oth w tv rt k := by
  rcases hk with rfl | rfl | rfl
  · exact ⟨_, _, h.pf.sz, by decide, by decide, by decide, by decide, fun e => h.nb⟩
  · exact ⟨_, _, h.pf.fd, by decide, by decide, by decide, by decide, fun e => by cases e⟩
  · exact ⟨_, _, h.pf.pd, by decide, by decide, by decide, by decide, fun e => by cases e⟩
/-- Behind Update. -/
theorem Up.upd {b' : Nat} {pv' : Value} (h : Up Nb w p f q r A cl wd ht N tl s b2 b pv l0 e0 l es bm n tv bv ev rt rb re) (hU : Ud w w' p f q cl wd ht N (carB wd ht tl (whoF l) cl) s b2 es.length b pv b' pv') :
    Up Nb w' p f q r A cl wd ht N tl s b2 b' pv' l es.length l es bm n tv bv ev rt rb re ∧ (∀ (k : Nat) (cs : Array Value), w.heap[k]? = some (.cells cs 3 (0, 0)) → w'.heap[k]? = w.heap[k]?) ∧ Turns (fun k => k = b2 ∨ k = f ∨ k = p) w w' := by
  obtain ⟨⟨u1, u2⟩, T, -, -⟩ := hU
  have z := T.size
  have hn := h.nN
  refine ⟨⟨h.bo.apart T (fun k hk => h.oth hk), h.fine, u1, u2, T.same ?_ h.sh, h.nb, Nat.le_refl _, ?_, ?_, ⟨hn.1, hn.2.1, hn.2.2.1, by omega⟩⟩, fun k cs hk => T.block k (Array.getElem?_eq_some_iff.1 hk).1 ?_, T⟩
  · rintro (e | e | e)
    · exact ne_of_type h.sh h.pf.sz (by decide) e
    · exact ne_of_type h.sh h.pf.fd (by decide) e
    · exact ne_of_type h.sh h.pf.pd (by decide) e
  · rw [List.drop_length]; exact Apt.refl _
  · rw [List.drop_length]; intro x hx; cases hx
  · rintro (e | e | e)
    · exact ne_of_type hk h.pf.sz (by decide) e
    · exact ne_of_type hk h.pf.fd (by decide) e
    · exact ne_of_type hk h.pf.pd (by decide) e
end
/-- What the loop over the edits keeps. -/
def K2 (w : World) (Nb p f q r A : Nat) (cl : Int) (wd ht N : Nat) (tl : List Nat) (s b2 bm : Nat) (tv rt : Value) (k wk : Nat) (wr : World) : Prop :=
  ∃ b pv l es n bv ev rb re, Up Nb wr p f q r A cl wd ht N tl s b2 b pv l es.length l es bm n tv bv ev rt rb re ∧ Nms wr wk N (lbl wd ht N tl cl s l).1 ∧ (es.length ≤ k ∧ n ≤ 16384 + 64 * k) ∧ Below w.heap.size w wr
/-- Behind an edit, ahead of Update. -/
def K3 (w : World) (Nb p f q r A : Nat) (cl : Int) (wd ht N : Nat) (tl : List Nat) (s b2 bm : Nat) (tv rt : Value) (k wk : Nat) (wr : World) : Prop :=
  ∃ b pv l0 e0 l es n bv ev rb re, Up Nb wr p f q r A cl wd ht N tl s b2 b pv l0 e0 l es bm n tv bv ev rt rb re ∧ Nms wr wk N (lbl wd ht N tl cl s l0).1 ∧ (es.length ≤ k ∧ n ≤ 16384 + 64 * k) ∧ Below w.heap.size w wr
section
variable {w : World} {Nb p f q r A : Nat} {cl : Int} {wd ht N : Nat} {tl : List Nat} {s b2 bm : Nat} {tv rt : Value} {k wk : Nat} {wr w' : World}
theorem K2.edit (h : K2 w Nb p f q r A cl wd ht N tl s b2 bm tv rt k wk wr) (hw : w.heap.size ≤ Nb) (hk : k < 60) (z : Bool) (t : Bd) :
    Calls Tryz.prog 9 #[ptr q, ptr r, edV z t] wr fun e w' => (∃ v, e = .returned v) ∧ K3 w Nb p f q r A cl wd ht N tl s b2 bm tv rt (k + 1) wk w' := by
  obtain ⟨b, pv, l, es, n, bv, ev, rb, re, h1, h2, ⟨h3, h5⟩, h4⟩ := h
  refine (does_any z t h1.bo h1.fine h1.nN.2.2.2 (by unfold maxLen; omega) (by omega)).mono ?_
  rintro e w' ⟨he, hD⟩
  obtain ⟨l', es', n', bv', ev', rb', re', u1, ⟨u2, u3⟩, u4, T⟩ := h1.does hD
  refine ⟨he, b, pv, l, es.length, l', es', n', bv', ev', rb', re', u1, (u4 wk _ h2).trans h2, ⟨by omega, by omega⟩, h4.trans ?_⟩
  exact (T.below (B := w.heap.size) (fun j hj => Nat.le_trans hw (h1.bo.ge hj)) h4.size)
theorem K3.update (h : K3 w Nb p f q r A cl wd ht N tl s b2 bm tv rt k wk wr) (hw : w.heap.size ≤ Nb) (hk : k ≤ 60) (hM : mt wd ht tl = true ∧ ∀ n ∈ tl, n < 256) (hg : Grnd w) (ho : Offs w) (hwd : (1 ≤ wd ∧ wd ≤ 128) ∧ 1 ≤ ht ∧ ht ≤ 128) (hN : N = wd * ht) (hs : 1 ≤ s ∧ s ≤ 4) :
    Calls Tryz.prog 10 #[ptr p] wr fun e w' => ∃ b pv l0 l es n bv ev rb re, e = .returned (.tuple #[.bool (!eqN N (lbl wd ht N tl cl s l0).1 (lbl wd ht N tl cl s l).1), .int .i64 0]) ∧
      Up Nb w' p f q r A cl wd ht N tl s b2 b pv l es.length l es bm n tv bv ev rt rb re ∧ Nms w' wk N (lbl wd ht N tl cl s l0).1 ∧ (es.length ≤ k ∧ n ≤ 16384 + 64 * k) ∧ Below w.heap.size w w' := by
  obtain ⟨b, pv, l0, e0, l, es, n, bv, ev, rb, re, h1, h2, h3, h4⟩ := h
  have hnN := h1.nN
  have hdl : (es.drop e0).length ≤ 60 := by rw [List.length_drop]; omega
  have fd' : Fd wr f q cl wd ht b2 N (e0 : Nat) := by rw [hN]; exact h1.pf.fd
  have sz' : Szs wr b2 ((List.range N).map (clrK (carB wd ht tl (whoF l0) cl) wd)) := by rw [hN]; exact h1.pf.sz
  have hU := upd_any f q b2 N e0 es.length cl wd ht tl (whoF l0) (whoF l) (es.drop e0) wr hwd hN fd' sz' (fun X T => by
    have bX := h1.bo.apart T (fun j hj => h1.oth (.inl hj))
    have hB : Below w.heap.size w X := h4.trans (T.below (B := w.heap.size) (fun j hj => by omega) h4.size)
    exact ⟨⟨bX.wl hM, hg.kept hB, ho.kept hB⟩, bX.ep⟩) (fun wx hx => by
    have bX := h1.bo.below hx
    exact dirty_any q bm wd ht tv bv ev es e0 wx bX.d bX.e h1.le (by omega)) (by omega) h1.wi h1.ap
  refine (pupd_any (car' := carB wd ht tl (whoF l) cl) (m := es.length) h1.pf h1.row hwd hN hs (fun x y h => car_has h) (hU.mono ?_) (fun Y T => ?_)).mono ?_
  · rintro e w1 ⟨he, ⟨u1, u2⟩, T⟩
    refine ⟨he, ⟨?_, ?_⟩, T⟩
    · rw [← hN]; exact u1
    · rw [← hN]; exact u2
  · exact ho.kept (h4.trans (T.below (B := w.heap.size) (fun j hj => by omega) h4.size))
  · rintro e w1 ⟨b', pv', rfl, hUd⟩
    obtain ⟨v1, v2, T⟩ := h1.upd hUd
    exact ⟨b', pv', l0, l, es, n, bv, ev, rb, re, rfl, v1, (v2 wk _ h2).trans h2, h3, h4.trans (T.below (B := w.heap.size) (fun j hj => by omega) h4.size)⟩
end
end Go.Proofs.YtoheibfijpdmfaaGreatDoor
set_option linter.unusedSimpArgs false
namespace Go.Proofs.YtoheibfijpdmfaaGreatDoor
open Go.RowKit Go.Shelf
set_option linter.unusedSectionVars false
variable [DecCn : ∀ (St : Nat → Bool) (Ad : Nat → Nat → Prop) (k i : Nat), Decidable (Cn St Ad k i)]
set_option linter.unusedVariables false
theorem eqN_zero (L M : Nat → Nat) : eqN 0 L M = true := decide_eq_true (fun i hi => by omega)
theorem eqN_succ (j : Nat) (L M : Nat → Nat) : eqN (j + 1) L M = (eqN j L M && decide (L j = M j)) := by
  rw [Bool.eq_iff_iff, Bool.and_eq_true, eqN, eqN, decide_eq_true_eq, decide_eq_true_eq, decide_eq_true_eq]
  constructor
  · intro h; exact ⟨fun i hi => h i (by omega), h j (by omega)⟩
  · rintro ⟨h1, h2⟩ i hi
    by_cases e : i = j
    · subst e; exact h2
    · exact h1 i (by omega)
set_option maxRecDepth 100000 in
set_option maxHeartbeats 4000000 in
theorem upp_bad (W H : Int) (tv bv : Value) (tl : List Nat) (L : List Bd) (c s : Int) (a3 : Option Addr) (n3 cap3 : Nat) (w : World) (hv : TlR w tv tl) (hb : ∀ x ∈ tl, x < 256) (hl : BdR w bv L) (hg : Grnd w) (ho : Offs w) (hc : chkC W H tl L = 1) :
    Calls Tryz.prog 3 #[mp W H tv bv, shv c s, .slice a3 n3 cap3] w fun e w' => e = .returned (.bool true) ∧ Below w.heap.size w w' := by
  obtain ⟨X, hX, B0, M0, T0⟩ := lab_boxes w W H tv bv c s
  have HB := hide (both_no W H tv bv tl L X (hv.kept B0) hb (hl.kept B0) hc)
  have HA : Hid (∀ wx, Below w.heap.size w wx → Calls Tryz.prog 6 #[] wx fun e w' => e = .returned (.bool true) ∧ Below wx.heap.size wx w') := hide fun wx hx => awake_any wx (hg.kept hx) (ho.kept hx)
  obtain ⟨m0, m1, m2, m3⟩ := M0.c
  obtain ⟨a1, cap1, rfl, -⟩ := hv
  obtain ⟨a2, cap2, rfl, -⟩ := hl
  clear hc hb hg ho
  go_enter Tryz.func3, Tryz.ntmps3
  go_wp2_with fail
  try rw [hX]
  refine HB.out.mono ?_
  rintro e w1 ⟨rfl, hb1⟩
  have HB1 := hide (bt B0 hb1)
  have T1 := T0.kept hb1
  obtain ⟨⟨t0, t1⟩, -, -⟩ := id T1
  clear hX m0 m1 m2 m3 M0 T0 HB B0 hb1
  go_wp2_with fail
  refine (pnew_nil c s _).mono ?_
  rintro e w2 ⟨rfl, hb2⟩
  have HB2 := hide (bt HB1.out hb2)
  clear hb2 t0 t1 T1
  go_wp2_with fail
  refine (HA.out _ HB2.out).mono ?_
  rintro e w3 ⟨rfl, hb3⟩
  have HB3 := hide (bt HB2.out hb3)
  clear hb3
  go_wp2_with fail
  go_ret
  exact ⟨rfl, HB3.out⟩
set_option maxRecDepth 100000 in
set_option maxHeartbeats 4000000 in
theorem upp_shape (W H : Int) (tv bv : Value) (tl : List Nat) (L : List Bd) (c s : Int) (a3 : Option Addr) (n3 cap3 : Nat) (w : World) (hv : TlR w tv tl) (hb : ∀ x ∈ tl, x < 256) (hl : BdR w bv L) (hg : Grnd w) (ho : Offs w) (hc : chkC W H tl L = 0) (hk : shB c s = false) :
    Calls Tryz.prog 3 #[mp W H tv bv, shv c s, .slice a3 n3 cap3] w fun e w' => e = .returned (.bool true) ∧ Below w.heap.size w w' := by
  obtain ⟨X, hX, B0, M0, T0⟩ := lab_boxes w W H tv bv c s
  have HB := hide (both_ok W H tv bv tl L X (hv.kept B0) hb (hl.kept B0) hc)
  have HA : Hid (∀ wx, Below w.heap.size w wx → Calls Tryz.prog 6 #[] wx fun e w' => e = .returned (.bool true) ∧ Below wx.heap.size wx w') := hide fun wx hx => awake_any wx (hg.kept hx) (ho.kept hx)
  have HK := hide hk
  obtain ⟨m0, m1, m2, m3⟩ := M0.c
  obtain ⟨a1, cap1, rfl, -⟩ := hv
  obtain ⟨a2, cap2, rfl, -⟩ := hl
  clear hc hb hg ho hk
  go_enter Tryz.func3, Tryz.ntmps3
  go_wp2_with fail
  try rw [hX]
  refine HB.out.mono ?_
  rintro e w1 ⟨q, r, rfl, -, -, hb1⟩
  have HB1 := hide (bt B0 hb1)
  have T1 := T0.kept hb1
  obtain ⟨⟨t0, t1⟩, -, -⟩ := id T1
  clear hX m0 m1 m2 m3 M0 T0 HB B0 hb1
  go_wp2_with fail
  refine (pnew_bad _ c s _ HK.out).mono ?_
  rintro e w2 ⟨rfl, hb2⟩
  have HB2 := hide (bt HB1.out hb2)
  clear hb2 t0 t1 T1
  go_wp2_with fail
  refine (HA.out _ HB2.out).mono ?_
  rintro e w3 ⟨rfl, hb3⟩
  have HB3 := hide (bt HB2.out hb3)
  clear hb3
  go_wp2_with fail
  go_ret
  exact ⟨rfl, HB3.out⟩
set_option maxRecDepth 100000 in
set_option maxHeartbeats 4000000 in
theorem upp_big (wd ht : Nat) (hwd : (1 ≤ wd ∧ wd ≤ 128) ∧ 1 ≤ ht ∧ ht ≤ 128) (tv bv : Value) (tl : List Nat) (L : List Bd) (c : Int) (s : Nat) (a3 : Option Addr) (n3 cap3 : Nat) (w : World) (hv : TlR w tv tl) (hb : ∀ x ∈ tl, x < 256) (hl : BdR w bv L) (hg : Grnd w) (ho : Offs w) (hc : chkC wd ht tl L = 0) (hk : shB c (s : Nat) = true) (hbig : 1500 < wd * ht ∨ 60 < n3) :
    Calls Tryz.prog 3 #[mp wd ht tv bv, shv c (s : Nat), .slice a3 n3 cap3] w fun e w' => e = .returned (.bool true) ∧ Below w.heap.size w w' := by
  obtain ⟨X, hX, B0, M0, T0⟩ := lab_boxes w wd ht tv bv c (s : Nat)
  have HB := hide (both_ok wd ht tv bv tl L X (hv.kept B0) hb (hl.kept B0) hc)
  have HA : Hid (∀ wx, Below w.heap.size w wx → Calls Tryz.prog 6 #[] wx fun e w' => e = .returned (.bool true) ∧ Below wx.heap.size wx w') := hide fun wx hx => awake_any wx (hg.kept hx) (ho.kept hx)
  have HG := hide hg
  have HO := hide ho
  have HK := hide hk
  obtain ⟨N, hN⟩ : ∃ N, N = wd * ht := ⟨_, rfl⟩
  have hN2 : N ≤ 16384 := by have := Nat.mul_le_mul hwd.1.2 hwd.2.2; omega
  have hmul : IntKind.i64.wrap ((wd : Int) * (ht : Int)) = (N : Nat) := by
    rw [show (wd : Int) * (ht : Int) = ((wd * ht : Nat) : Int) by push_cast; rfl, ← hN]
    exact wrap_nat hN2
  rw [← hN] at hbig
  have M1 := M0
  obtain ⟨m0, m1, m2, m3⟩ := M0.c
  obtain ⟨a1, cap1, rfl, -⟩ := hv
  obtain ⟨a2, cap2, rfl, -⟩ := hl
  have HN := hide hN
  clear hc hb hg ho hk hN
  go_enter Tryz.func3, Tryz.ntmps3
  go_wp2_with fail
  try rw [hX]
  refine HB.out.mono ?_
  rintro e w1 ⟨q, r, rfl, hW, hR, hb1⟩
  have HW := hide hW
  have HB1 := hide (bt B0 hb1)
  have T1 := T0.kept hb1
  have M2 := M1.kept hb1
  obtain ⟨⟨t0, t1⟩, -, -⟩ := id T1
  clear hX m0 m1 m2 m3 M0 T0 HB B0 hb1 hW hR M1
  go_wp2_with fail
  refine (pnew_good (N := N) c s HW.out.1 HW.out.2 (HG.out.kept HB1.out) (HO.out.kept HB1.out) HN.out HK.out).mono ?_
  rintro e V ⟨p, fl, b2, b, pv, rfl, -, hb2, -, -⟩
  have HB2 := hide (bt HB1.out hb2)
  obtain ⟨m0, m1, m2, m3⟩ := (M2.kept hb2).c
  clear hb2 t0 t1 T1 HW M2
  by_cases h1 : 1500 < N
  · have h1I : (1500 : Int) < (N : Nat) := by omega
    go_wp2_with fail
    refine (HA.out _ HB2.out).mono ?_
    rintro e w3 ⟨rfl, hb3⟩
    have HB3 := hide (bt HB2.out hb3)
    clear hb3
    go_wp2_with fail
    go_ret
    exact ⟨rfl, HB3.out⟩
  · have h1I : ¬ (1500 : Int) < (N : Nat) := by omega
    have h2 : 60 < n3 := by omega
    have h2I : (60 : Int) < (n3 : Nat) := by omega
    go_wp2_with fail
    refine (HA.out _ HB2.out).mono ?_
    rintro e w3 ⟨rfl, hb3⟩
    have HB3 := hide (bt HB2.out hb3)
    clear hb3
    go_wp2_with fail
    go_ret
    exact ⟨rfl, HB3.out⟩
end Go.Proofs.YtoheibfijpdmfaaGreatDoor
set_option linter.unusedSimpArgs false
namespace Go.Proofs.YtoheibfijpdmfaaGreatDoor
open Go.RowKit Go.Shelf
set_option linter.unusedSectionVars false
variable [DecCn : ∀ (St : Nat → Bool) (Ad : Nat → Nat → Prop) (k i : Nat), Decidable (Cn St Ad k i)]
set_option linter.unusedVariables false
set_option maxRecDepth 100000 in
set_option maxHeartbeats 16000000 in
theorem upp_good (wd ht : Nat) (hwd : (1 ≤ wd ∧ wd ≤ 128) ∧ 1 ≤ ht ∧ ht ≤ 128) (tv bv lv : Value) (tl : List Nat) (L : List Bd) (Ks : List (Bool × Bd)) (cl : Int) (s : Nat) (w : World) (hv : TlR w tv tl) (hb : ∀ x ∈ tl, x < 256) (hl : BdR w bv L) (hK : EdR w lv Ks) (hg : Grnd w) (ho : Offs w) (hc : chkC wd ht tl L = 0) (hk : shB cl (s : Nat) = true) (hsm : wd * ht ≤ 1500 ∧ Ks.length ≤ 60) :
    Calls Tryz.prog 3 #[mp wd ht tv bv, shv cl (s : Nat), lv] w fun e w' => e = .returned (.bool true) ∧ Below w.heap.size w w' := by
  have hs : 1 ≤ s ∧ s ≤ 4 := by
    simp only [shB, Bool.and_eq_true, decide_eq_true_eq] at hk
    omega
  obtain ⟨X0, hX0, B0, M0, T0⟩ := lab_boxes w wd ht tv bv cl (s : Nat)
  have S0 : X0.heap[w.heap.size + 1]? = some (.cells #[.int .i64 cl, .int .i64 (s : Nat)] 27 (0, 0)) := by
    rw [← hX0]
    have := heap_alloc_new (w.alloc (.cells #[.int .i64 (wd : Nat), .int .i64 (ht : Nat), tv, bv] 25)) (.cells #[.int .i64 cl, .int .i64 (s : Nat)] 27)
    rwa [World.size_alloc] at this
  have HB := hide (both_bo wd ht tv bv tl L X0 (hv.kept B0) hb (hl.kept B0) hc)
  have HA : Hid (∀ wx, Below w.heap.size w wx → Calls Tryz.prog 6 #[] wx fun e w' => e = .returned (.bool true) ∧ Below wx.heap.size wx w') := hide fun wx hx => awake_any wx (hg.kept hx) (ho.kept hx)
  have HG := hide hg
  have HO := hide ho
  have HK := hide hk
  obtain ⟨hmt, hLl, hok, hwho⟩ := chkC_zero hc
  have hFn : Fine wd ht L := by simpa using (okL_fine wd ht L [] (Fine.nil _ _) rfl hok).1
  have HF := hide hFn
  have HM : Hid (mt wd ht tl = true ∧ ∀ n ∈ tl, n < 256) := hide ⟨hmt, hb⟩
  obtain ⟨N, hN⟩ : ∃ N, N = wd * ht := ⟨_, rfl⟩
  have hN2 : N ≤ 1500 := by omega
  have hmul : IntKind.i64.wrap ((wd : Int) * (ht : Int)) = (N : Nat) := by
    rw [show (wd : Int) * (ht : Int) = ((wd * ht : Nat) : Int) by push_cast; rfl, ← hN]
    exact wrap_nat (by omega)
  obtain ⟨hsm1, hsm2⟩ := hsm
  have h1I : ¬ (1500 : Int) < (N : Nat) := by omega
  have h2I : ¬ (60 : Int) < (Ks.length : Nat) := by omega
  have h2N : ¬ 60 < Ks.length := by omega
  have hNI : ((N : Nat) : Int) ≤ 1500 := by omega
  have M1 := M0
  have HS0 := hide S0
  obtain ⟨m0, m1, m2, m3⟩ := M0.c
  obtain ⟨a1, cap1, rfl, -⟩ := hv
  obtain ⟨a2, cap2, rfl, -⟩ := hl
  obtain ⟨a3, cap3, rfl, hK1, hK2⟩ := hK
  have HKs := hide hK2
  have hX0n := B0.size
  have HN := hide hN
  have HOf : Hid (∀ wx r l, Rl wx r wd ht tl l → Calls Tryz.prog 7 #[ptr r, shv cl (s : Nat)] wx fun e w' => ∃ iv, e = .returned (gdv wd ht iv) ∧ Rw 4 1 cB w' iv ((List.range N).map (stI (carB wd ht tl (whoF l) cl) wd N s)) ∧ Below wx.heap.size wx w') := hide fun wx r l h => of_gr cl s h hwd hN hs
  have HLab : Hid (∀ wx l iv, Rw 4 1 cB wx iv ((List.range N).map (stI (carB wd ht tl (whoF l) cl) wd N s)) → Calls Tryz.prog 8 #[gdv wd ht iv] wx fun e w' => ∃ b, e = .returned (sl b N) ∧ Nms w' b N (lbl wd ht N tl cl s l).1 ∧ Below wx.heap.size wx w' ∧ wx.heap.size ≤ b) := hide fun wx l iv h => labels_any h hwd hN (fun i hi => stI_lt i hi)
  clear hc hb hg ho hk hmt hLl hok hwho hFn hsm1 hK2 hN S0
  go_enter Tryz.func3, Tryz.ntmps3
  go_wp2_with fail
  try rw [hX0]
  refine HB.out.mono ?_
  rintro e w1 ⟨q, r, rfl, ⟨bm, t1, b1, rt, rb, hBo⟩, hb1⟩
  have HBo := hide hBo
  have HB1 := hide (bt B0 hb1)
  have M2 := M1.kept hb1
  have T1 := T0.kept hb1
  obtain ⟨⟨t0, t9⟩, -, -⟩ := id T1
  have hX1n := hb1.size
  have HSh1 : Hid (w1.heap[w.heap.size + 1]? = some (.cells #[.int .i64 cl, .int .i64 (s : Nat)] 27 (0, 0))) := hide ((hb1.block _ (Array.getElem?_eq_some_iff.1 HS0.out).1).trans HS0.out)
  clear hX0 m0 m1 m2 m3 M0 M1 HB hb1 hBo T0 HS0
  go_wp2_with fail
  refine (pnew_good (N := N) cl s (HBo.out.wl HM.out) HBo.out.ep (HG.out.kept HB1.out) (HO.out.kept HB1.out) HN.out HK.out).mono ?_
  rintro e V ⟨p, f, b2, b, pv, rfl, ⟨hP, hRw⟩, hb2, ⟨o1, o2, o3, o4⟩, o5⟩
  have HB2 := hide (bt HB1.out hb2)
  have M3 := M2.kept hb2
  obtain ⟨m0, m1, m2, m3⟩ := M3.c
  have U0 : Up X0.heap.size V p f q r (w.heap.size + 1) cl wd ht N tl s b2 b pv L 0 L [] bm (64 * L.length) t1 b1 (.slice none 0 0) rt rb (.slice none 0 0) := by
    refine ⟨HBo.out.below hb2, HF.out, hP, hRw, (hb2.block _ (Array.getElem?_eq_some_iff.1 HSh1.out).1).trans HSh1.out, ⟨fun e => ?_, fun e => ?_⟩, Nat.zero_le _, Apt.refl _, by simp, ⟨by omega, by omega, by omega, by have := hb2.size; omega⟩⟩
    · have := (HBo.out.t.lt b2 e).2; omega
    · have := (HBo.out.t'.lt b2 e).2; omega
  have HU0 := hide U0
  have HX0n : Hid (w.heap.size ≤ X0.heap.size) := hide hX0n
  obtain ⟨A, hA⟩ : ∃ A, w.heap.size + 1 = A := ⟨_, rfl⟩
  have sh0 : V.cell? ⟨w.heap.size + 1, 0, none⟩ = some (.int .i64 cl) ∧ V.cell? ⟨w.heap.size + 1, 1, none⟩ = some (.int .i64 (s : Nat)) := ⟨cell_of_row _ _ 0 _ _ _ U0.sh, cell_of_row _ _ 1 _ _ _ U0.sh⟩
  obtain ⟨sh1, sh2⟩ := sh0
  clear hP hRw hb2 o1 o2 o3 o4 o5 t0 t9 T1 M2 M3 U0 HBo hX0n hX1n HSh1 hA A B0
  go_wp2_with fail
  refine (HOf.out _ r L (HU0.out.bo.rl HM.out HU0.out.fine.len)).mono ?_
  rintro e V2 ⟨iv, rfl, hiv, hbv2⟩
  have HU2 := hide (HU0.out.below hbv2)
  have HBv2 := hide (bt HB2.out hbv2)
  have Hiv := hide hiv
  clear hiv hbv2 m0 m1 m2 m3 sh1 sh2 HU0
  go_wp2_with fail
  refine (HLab.out _ L iv Hiv.out).mono ?_
  rintro e V3 ⟨wk, rfl, hnm, hb3, hlk⟩
  have HK0 : Hid (K2 w X0.heap.size p f q r (w.heap.size + 1) cl wd ht N tl s b2 bm t1 rt 0 wk V3) := hide ⟨b, pv, L, [], 64 * L.length, b1, .slice none 0 0, rb, .slice none 0 0, HU2.out.below hb3, hnm, ⟨by simp, by have := HF.out.len; omega⟩, bt HBv2.out hb3⟩
  clear hnm hb3 hlk HU2 Hiv HBv2 HB2
  go_wp2_with fail
  go_loopw [12, 13] (fun a d wr => ∃ (k wk : Nat), k ≤ Ks.length ∧ d = .int .i64 (k : Nat) ∧ a = sl wk N ∧ K2 w X0.heap.size p f q r (w.heap.size + 1) cl wd ht N tl s b2 bm t1 rt k wk wr) (fun _ d _ => Ks.length - (intOf d).toNat)
  case atStart => exact ⟨0, wk, by omega, rfl, rfl, HK0.out⟩
  case round =>
    rename World => wo
    obtain ⟨k, wk, hk, rfl, rfl, hJ⟩ := hrel
    clear HK0
    have HJ := hide hJ
    by_cases hlt : k < Ks.length
    · have hli : ((k : Nat) : Int) < (Ks.length : Nat) := by omega
      have hkI : (0 : Int) ≤ (k : Nat) ∧ ((k : Nat) : Int) ≤ 60 := by omega
      obtain ⟨t, htt⟩ : ∃ t, Ks[k]? = some t := ⟨_, List.getElem?_eq_getElem hlt⟩
      have hEd := (HKs.out k t htt).kept (Nat.le_refl _) (show Below w.heap.size w _ from by obtain ⟨_, _, _, _, _, _, _, _, _, -, -, -, h⟩ := hJ; exact h)
      obtain ⟨g3, o, rfl, -, c0, c1, c2, c3, c4, c5⟩ := hEd
      have HE := hide (hJ.edit HX0n.out (by omega) t.1 t.2)
      clear hJ htt
      go_wp2_with fail
      refine HE.out.mono ?_
      rintro e w5 ⟨⟨v, rfl⟩, hJ5⟩
      have HJ5 := hide hJ5
      clear HE HJ hJ5 c0 c1 c2 c3 c4 c5
      go_wp2_with fail
      refine (HJ5.out.update HX0n.out (by omega) HM.out HG.out HO.out hwd HN.out hs).mono ?_
      rintro e w6 ⟨b6, pv6, l0, l, es, n, bv6, ev, rb6, re, rfl, hU6, hN6, hkn, hB6⟩
      obtain ⟨tb, htb⟩ : ∃ tb, (!eqN N (lbl wd ht N tl cl s l0).1 (lbl wd ht N tl cl s l).1) = tb := ⟨_, rfl⟩
      rw [htb]
      have Htb := hide htb
      have HU6 := hide hU6
      have HN6 := hide hN6
      have HB6 := hide hB6
      have HKn := hide hkn
      have sh1 : w6.cell? ⟨w.heap.size + 1, 0, none⟩ = some (.int .i64 cl) := cell_of_row _ _ 0 _ _ _ hU6.sh
      have sh2 : w6.cell? ⟨w.heap.size + 1, 1, none⟩ = some (.int .i64 (s : Nat)) := cell_of_row _ _ 1 _ _ _ hU6.sh
      clear htb hU6 hN6 hkn HJ5 hB6
      go_wp2_with fail
      refine (HOf.out _ r l (HU6.out.bo.rl HM.out HU6.out.fine.len)).mono ?_
      rintro e w7 ⟨iv7, rfl, hiv, hb7⟩
      have Hiv := hide hiv
      have HB7 := hide hb7
      clear hiv hb7 sh1 sh2
      go_wp2_with fail
      refine (HLab.out _ l iv7 Hiv.out).mono ?_
      rintro e w8 ⟨wk8, rfl, hnm8, hb8, hlk8⟩
      have B8 := bt HB7.out hb8
      have HU8 := hide (HU6.out.below B8)
      have HN8 := hide (HN6.out.upto B8)
      have HNw := hide hnm8
      have HB8 := hide (bt HB6.out B8)
      obtain ⟨L0, hL0⟩ : ∃ L0, (lbl wd ht N tl cl s l0).1 = L0 := ⟨_, rfl⟩
      obtain ⟨L1, hL1⟩ : ∃ L1, (lbl wd ht N tl cl s l).1 = L1 := ⟨_, rfl⟩
      rw [hL0, hL1] at Htb
      rw [hL0] at HN8
      rw [hL1] at HNw
      have HL1 := hide hL1
      have e0 := eqN_zero L0 L1
      have He0 := hide e0
      clear hnm8 hb8 hlk8 B8 HU6 HN6 HB6 HB7 Hiv hL0 hL1 e0
      go_wp2_with fail
      go_loopw [17, 18] (fun a d wr => ∃ j : Nat, j ≤ N ∧ d = .int .i64 (j : Nat) ∧ a = .bool (!eqN j L0 L1) ∧ Below w8.heap.size w8 wr) (fun _ d _ => N - (intOf d).toNat)
      case atStart => exact ⟨0, Nat.zero_le _, rfl, by rw [He0.out]; rfl, Below.refl _ _⟩
      case round =>
        obtain ⟨j, hj, rfl, rfl, hBj⟩ := hrel
        by_cases hjl : j < N
        · have hji : ((j : Nat) : Int) < (N : Nat) := by omega
          have hjI : (0 : Int) ≤ (j : Nat) ∧ ((j : Nat) : Int) ≤ 1500 := by omega
          obtain ⟨u0, hu0⟩ : ∃ u, L0 j = u := ⟨_, rfl⟩
          obtain ⟨u1, hu1⟩ : ∃ u, L1 j = u := ⟨_, rfl⟩
          have d0 : ∀ m : Lat wr, m.w.cell? ⟨wk, j, none⟩ = some (.int .i64 (u0 : Nat)) := fun m => by rw [← hu0]; exact (HN8.out.upto (bt hBj m.h)).c hjl
          have d1 : ∀ m : Lat wr, m.w.cell? ⟨wk8, j, none⟩ = some (.int .i64 (u1 : Nat)) := fun m => by rw [← hu1]; exact (HNw.out.upto (bt hBj m.h)).c hjl
          have hsc := eqN_succ j L0 L1
          rw [hu0, hu1] at hsc
          have Hsc := hide hsc
          have hne := lat_some wr
          have HBj := hide hBj
          obtain ⟨ej, hej⟩ : ∃ ej, eqN j L0 L1 = ej := ⟨_, rfl⟩
          rw [hej] at Hsc
          rw [hej]
          clear hu0 hu1 hsc hBj hej
          cases ej
          · simp only [Bool.not_false]
            go_wp2_with fail
            refine wp_region_lat (by kernel_rfl) (by kernel_rfl) ?_
            repeat (go_big_quiet_step (fail))
            refine wpQuiet_nil ?_
            rintro _ ⟨m, rfl⟩
            have HBm := hide (bt HBj.out m.h)
            clear d0 d1 hne
            go_wp2_with fail
            go_roundw
            case rel => exact ⟨j + 1, by omega, by go_num, by rw [Hsc.out]; rfl, HBm.out⟩
            case measure => simp [intOf]; omega
          · simp only [Bool.not_true]
            by_cases he : u0 = u1
            · subst he
              go_wp2_with fail
              refine wp_region_lat (by kernel_rfl) (by kernel_rfl) ?_
              repeat (go_big_quiet_step (fail))
              refine wpQuiet_nil ?_
              rintro _ ⟨m, rfl⟩
              have HBm := hide (bt HBj.out m.h)
              clear d0 d1 hne
              go_wp2_with fail
              go_roundw
              case rel => exact ⟨j + 1, by omega, by go_num, by rw [Hsc.out]; simp, HBm.out⟩
              case measure => simp [intOf]; omega
            · have heI : ¬ ((u1 : Nat) : Int) = (u0 : Nat) := by omega
              have heI2 : ¬ u1 = u0 := fun e => he e.symm
              go_wp2_with fail
              refine wp_region_lat (by kernel_rfl) (by kernel_rfl) ?_
              repeat (go_big_quiet_step (fail))
              refine wpQuiet_nil ?_
              rintro _ ⟨m, rfl⟩
              have HBm := hide (bt HBj.out m.h)
              clear d0 d1 hne
              go_wp2_with fail
              go_roundw
              case rel => exact ⟨j + 1, by omega, by go_num, by rw [Hsc.out]; simp [he, heI, heI2], HBm.out⟩
              case measure => simp [intOf]; omega
        · have hje : j = N := by omega
          subst hje
          have hji : ¬ ((j : Nat) : Int) < (j : Nat) := by omega
          rw [Htb.out]
          have HUr := hide (HU8.out.below hBj)
          have HNr := hide (HNw.out.upto hBj)
          have HBr := hide (bt HB8.out hBj)
          have HRt := hide (right_any HUr.out.pf HUr.out.row (HUr.out.bo.rl HM.out HUr.out.fine.len) hwd HN.out hs)
          have sh1 : wr.cell? ⟨w.heap.size + 1, 0, none⟩ = some (.int .i64 cl) := cell_of_row _ _ 0 _ _ _ HUr.out.sh
          have sh2 : wr.cell? ⟨w.heap.size + 1, 1, none⟩ = some (.int .i64 (s : Nat)) := cell_of_row _ _ 1 _ _ _ HUr.out.sh
          clear hBj HU8 HN8 HNw HB8 He0
          go_wp2_with fail
          refine HRt.out.mono ?_
          rintro e w9 ⟨rfl, hb9⟩
          have HJ9 : Hid (K2 w X0.heap.size p f q r (w.heap.size + 1) cl wd ht j tl s b2 bm t1 rt (k + 1) wk8 w9) := hide ⟨b6, pv6, l, es, n, bv6, ev, rb6, re, HUr.out.below hb9, by rw [HL1.out]; exact HNr.out.upto hb9, HKn.out, bt HBr.out hb9⟩
          clear hb9 sh1 sh2 HRt HUr HNr HBr
          go_wp2_with fail
          go_roundw
          case rel => exact ⟨k + 1, wk8, by omega, by go_num, rfl, HJ9.out⟩
          case measure => simp [intOf]; omega
    · have hli : ¬ ((k : Nat) : Int) < (Ks.length : Nat) := by omega
      have HBw : Hid (Below w.heap.size w wo) := hide (by obtain ⟨_, _, _, _, _, _, _, _, _, -, -, -, h⟩ := hJ; exact h)
      clear hJ HJ
      go_wp2_with fail
      refine (HA.out _ HBw.out).mono ?_
      rintro e w7 ⟨rfl, hb7⟩
      have HB7 := hide (bt HBw.out hb7)
      clear hb7
      go_wp2_with fail
      go_ret
      exact ⟨rfl, HB7.out⟩
end Go.Proofs.YtoheibfijpdmfaaGreatDoor
namespace Go.Proofs.YtoheibfijpdmfaaGreatDoor
open Go.ChangeShapes Go.WideShapes Go.ChangeAt Go.WideMaps Go.WideElems Go.RowKit Go.Deep Go.Joins
set_option linter.unusedSectionVars false
variable [DecCn : ∀ (St : Nat → Bool) (Ad : Nat → Nat → Prop) (k i : Nat), Decidable (Cn St Ad k i)]
set_option linter.unusedVariables false
set_option maxRecDepth 100000
theorem cEd : Tryz.prog.cellsOf 52 = 6 := by kernel_rfl
theorem cBo : Tryz.prog.cellsOf 4 = 1 := by kernel_rfl
section
variable {H : Type} {enc : TypeId × Value → H} {W : World} {base : Nat} {sp : Nat → Bool} {held : Bool}
theorem ed_of {fuel : Nat} {cs : List Value} {z : DataW H × List MemPlace} (h : DataW.trod enc Tryz.prog W base sp held fuel 52 cs = some z) : ∃ (b : Bool) (t : Bd), cs = [.bool b, .int .i64 t.id, .int .i64 t.x, .int .i64 t.y, .int .i64 t.a, .int .i64 t.b] := by
  obtain ⟨y0, y1, n, rfl, hl, h0, h1⟩ := trod_struct2 Tryz.underlying52 h
  obtain ⟨i, e0, -⟩ := DataW.trod_bool Tryz.underlying4 h0
  obtain ⟨t, e1⟩ := bd_of h1
  rw [cEd] at hl
  match cs, hl, e0, e1 with
  | [q, u, v, s, t', r], _, e0, e1 =>
    simp [cBo, cBd] at e0 e1
    subst e0
    obtain ⟨rfl, rfl, rfl, rfl, rfl⟩ := e1
    exact ⟨i, t, rfl⟩
theorem six_cells {b o : Nat} {c0 c1 c2 c3 c4 c5 : Value} (h : W.cells? base ⟨b, o, none⟩ 6 = some [c0, c1, c2, c3, c4, c5]) :
    W.cell? ⟨b, o, none⟩ = some c0 ∧ W.cell? ⟨b, o + 1, none⟩ = some c1 ∧ W.cell? ⟨b, o + 2, none⟩ = some c2 ∧ W.cell? ⟨b, o + 3, none⟩ = some c3 ∧ W.cell? ⟨b, o + 4, none⟩ = some c4 ∧ W.cell? ⟨b, o + 5, none⟩ = some c5 := by
  obtain ⟨_, _, hc⟩ := World.cells?_some h
  have h0 := hc 0 (by omega)
  have h1 := hc 1 (by omega)
  have h2 := hc 2 (by omega)
  have h3 := hc 3 (by omega)
  have h4 := hc 4 (by omega)
  have h5 := hc 5 (by omega)
  simp only [Addr.add_lit] at h0 h1 h2 h3 h4 h5
  exact ⟨h0, h1, h2, h3, h4, h5⟩
theorem opened_edits {b0 : Nat} {r : Reach} {v : Value} {d : DataW H} {p : List MemPlace} (hv : Value.okWide Tryz.prog W r b0 28 v) (h : DataW.Trod enc Tryz.prog W base sp held 28 v d p) : ∃ K, EdR W v K := by
  obtain ⟨a0, l0, c0, rfl⟩ := okWide_slice Tryz.underlying28 hv
  obtain ⟨fuel, hf⟩ := h
  simp only [Value.cells] at hf
  rcases open_slice Tryz.underlying28 hf with ⟨hcs, hx⟩ | ⟨a, len, cap, m, n, D, Pl, hcs, hb, hl, hm, hmm, hx, hel⟩
  · simp only [List.cons.injEq, and_true] at hcs
    rw [hcs]
    exact ⟨[], none, 0, rfl, Nat.le_refl _, fun i t h => by simp at h⟩
  · simp only [List.cons.injEq, and_true] at hcs
    rw [hcs]
    have hlm : len ≤ m := by rw [hmm]; split <;> omega
    rw [cEd] at hel
    have hit : Inhabited (Bool × Bd) := ⟨⟨false, ⟨0, 0, 0, 0, 0⟩⟩⟩
    obtain ⟨T, hT⟩ := choose_lt (α := Bool × Bd) (p := fun i t => EdAtR W (some a) i t) (n := len) (fun i hi => by
      obtain ⟨cs', h1, h2⟩ := hel i (by omega)
      obtain ⟨z, t, rfl⟩ := ed_of h2
      obtain ⟨cs0, g1, g2⟩ := hel 0 (by omega)
      obtain ⟨z0, t0, rfl⟩ := ed_of g2
      have hc0 := (World.cells?_some g1).2.2 0 (by omega)
      obtain ⟨b, o, s⟩ := a
      have hsp : s = none := by
        have := World.cell?_spot (hc0.trans rfl)
        simpa [Addr.add] using this
      subst hsp
      rw [Addr.add_lit] at h1
      have h5 := six_cells h1
      exact ⟨(z, t), b, o, rfl, World.block_lt_of_cell? _ _ h5.1, h5.1, h5.2.1, h5.2.2.1, h5.2.2.2.1, h5.2.2.2.2.1, h5.2.2.2.2.2⟩)
    have hget : ∀ i t, ((List.range len).map T)[i]? = some t → i < len ∧ t = T i := by
      intro i t ht
      simp only [List.getElem?_map, Option.map_eq_some_iff] at ht
      obtain ⟨j, hj, rfl⟩ := ht
      obtain ⟨h1, h2⟩ := List.getElem?_eq_some_iff.1 hj
      simp only [List.length_range] at h1
      simp only [List.getElem_range] at h2
      subst h2
      exact ⟨h1, rfl⟩
    refine ⟨(List.range len).map T, some a, cap, by simp, by simpa using hl, fun i t ht => ?_⟩
    obtain ⟨h1, rfl⟩ := hget i t ht
    exact hT i h1
end
end Go.Proofs.YtoheibfijpdmfaaGreatDoor
