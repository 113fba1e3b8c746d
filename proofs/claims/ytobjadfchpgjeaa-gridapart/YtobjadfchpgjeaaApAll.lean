/-
  An edit as a function; Play, and what it turns. An edit of one world of the program's, alone; many edits as a function. What GridApart keeps. A map that was told, spoilt. maps.Clone of a map from cells to numbers; Copy of a world. phalanxlaw04.GridApart, walked.
-/
import Derived.Test.YtobjadfchpgjeaaPlay2
import Derived.Test.YtobjadfchpgjeaaUndo
import Derived.Test.YtobjadfchpgjeaaMk2
import Derived.Test.YtobjadfchpgjeaaMk
import Derived.Test.YtobjadfchpgjeaaMapW
import Derived.Test.YtobjadfchpgjeaaStand
import Derived.Shelf.SlMaps.Clone
import Derived.Test.YtobjadfchpgjeaaEditsAll
set_option linter.unusedSimpArgs false
namespace Go.Proofs.Ytobjadfchpgjeaa
open Go.RowKit
set_option linter.unusedVariables false
/-- The buildings behind an edit. -/
def edL (W H : Int) (l : List Bd) (z : Bool) (t : Bd) : List Bd :=
  if z then (if found l t.id then del l (pos l t.id) else l) else (if refcode W H l t = 0 then ins l t else l)
/-- The edits' rectangles behind an edit. -/
def edE (W H : Int) (l : List Bd) (es : List Rc) (z : Bool) (t : Bd) : List Rc :=
  if z then (if found l t.id then es ++ ((l[pos l t.id]?).map Bd.foot).toList else es) else (if refcode W H l t = 0 then es ++ [t.foot] else es)
theorem edE_len (W H : Int) (l : List Bd) (es : List Rc) (z : Bool) (t : Bd) : (edE W H l es z t).length ≤ es.length + 1 := by
  unfold edE
  cases z <;> simp only [if_true, if_false, Bool.false_eq_true]
  · split <;> simp
  · split
    · cases l[pos l t.id]? <;> simp
    · omega
/-- The blocks that an edit may turn. -/
def TT (q r bm : Nat) (bv ev rb re : Value) (k : Nat) : Prop := (k = q ∨ k = bm ∨ bv.ownBlock = some k ∨ ev.ownBlock = some k) ∨ (k = r ∨ rb.ownBlock = some k ∨ re.ownBlock = some k)
/-- What an edit leaves of both. -/
def PlayedF (N : Nat) (w : World) (p r : Nat) (W H : Int) (tl : List Nat) (l : List Bd) (es : List Rc) (bm n : Nat) (tv bv ev rt rb re : Value) (z : Bool) (t : Bd) (w' : World) : Prop :=
  ∃ n' bv' ev' rb' re', BoAt N w' p r W H tl (edL W H l z t) (edE W H l es z t) bm n' tv bv' ev' rt rb' re' ∧ Fine W H (edL W H l z t) ∧ n' ≤ n + 64 ∧ Turns (TT p r bm bv ev rb re) w w' ∧
    ((∀ k, bv'.ownBlock = some k → bv.ownBlock = some k ∨ w.heap.size ≤ k) ∧ (∀ k, ev'.ownBlock = some k → ev.ownBlock = some k ∨ w.heap.size ≤ k) ∧ (∀ k, rb'.ownBlock = some k → rb.ownBlock = some k ∨ w.heap.size ≤ k) ∧ ∀ k, re'.ownBlock = some k → re.ownBlock = some k ∨ w.heap.size ≤ k)
section
variable {p r bm : Nat} {bv ev rb re : Value} {k : Nat}
theorem tt1 (h : k = p ∨ k = bm ∨ bv.ownBlock = some k ∨ ev.ownBlock = some k) : TT p r bm bv ev rb re k := .inl h
theorem tt2 (h : k = r ∨ rb.ownBlock = some k ∨ re.ownBlock = some k) : TT p r bm bv ev rb re k := .inr h
end
theorem playf_raze (N : Nat) (w : World) (p r : Nat) (W H : Int) (tl : List Nat) (l : List Bd) (es : List Rc) (bm n : Nat) (tv bv ev rt rb re : Value) (t : Bd) (h : BoAt N w p r W H tl l es bm n tv bv ev rt rb re) (hF : Fine W H l) (hN : N ≤ w.heap.size) (hes : (es.length + 1) * 32 ≤ 211106232532992) :
    Calls Try.prog 24 #[boV p r, edV true t] w fun e w' => e = .returned (.bool true) ∧ PlayedF N w p r W H tl l es bm n tv bv ev rt rb re true t w' := by
  cases hf : found l t.id
  · refine play_raze_of w p r t 0 0 0 0 4 _ (fun X B0 z0 P0 => ?_)
    have HX := h.below B0
    refine (raze_no p bm W H tv bv ev l t.id X HX.d HX.b hF.sorted hF.len hf).mono ?_
    rintro e w1 ⟨rfl, hb1⟩
    refine ⟨rfl, P0.kept hb1, hb1.size, fun wx hx => ?_⟩
    have H1 := (HX.below hb1).below hx
    refine (refraze_no r W H rt rb re l t.id wx H1.d' H1.b' hF.sorted hF.len hf).mono ?_
    rintro e w3 ⟨rfl, hb3⟩
    refine ⟨rfl, fun q _ hq => hb3.block q hq, fun wy hy => ?_⟩
    have e1 : edL W H l true t = l := by simp [edL, hf]
    have e2 : edE W H l es true t = es := by simp [edE, hf]
    unfold PlayedF
    rw [e1, e2]
    exact ⟨n, bv, ev, rb, re, (H1.below hb3).below hy, hF, by omega, Turns.of_below (bt B0 (bt hb1 (bt hx (bt hb3 hy)))), fun k e => .inl e, fun k e => .inl e, fun k e => .inl e, fun k e => .inl e⟩
  · obtain ⟨s, hs, -⟩ := (found_iff hF.sorted t.id).1 hf
    refine play_raze_of w p r t s.x s.y s.a s.b 0 _ (fun X B0 z0 P0 => ?_)
    have HX := h.below B0
    have l1 := h.d.lt
    have l2 := h.f.lt
    have l3 := h.d'.lt
    refine (raze_yes p bm n W H tv bv ev (whoF l) l es t.id s X HX.d HX.f HX.b HX.e hF.sorted hF.len hes hf hs).mono ?_
    rintro e w1 ⟨rfl, bv', ev', q1, q2, q3, q4, q5, q6, q7⟩
    rw [who_del hs hF.apart] at q3
    have low : ∀ q, (q = p ∨ q = bm ∨ bv.ownBlock = some q ∨ ev.ownBlock = some q) → q < w.heap.size := fun q hq => by
      rcases hq with e | e | e | e
      · omega
      · omega
      · exact (h.b.lt q e).2
      · exact (h.e.lt q e).2
    refine ⟨rfl, P0.turn q5 (fun hq => by have := low _ hq; omega) (fun hq => by have := low _ hq; omega), q5.size, fun wx hx => ?_⟩
    have TB : Turns NoB w1 wx := Turns.of_below hx
    have T1 : Turns (fun k => k = p ∨ k = bm ∨ bv.ownBlock = some k ∨ ev.ownBlock = some k) X wx := q5.trans (Turns.of_below hx)
    have doc := HX.doc T1
    have zx := T1.size
    refine (refraze_yes r W H rt rb re l es t.id s wx doc.1 doc.2.2.1 doc.2.2.2 hF.sorted hF.len hes hf hs).mono ?_
    rintro e w3 ⟨rfl, rb', re', u1, u2, u3, u4, u5, u6⟩
    have T2 : Turns (fun k => k = r ∨ rb.ownBlock = some k ∨ re.ownBlock = some k) wx w3 := u4.mono (fun k _ e => e.imp id Or.inr)
    have hXN : N ≤ X.heap.size := by omega
    have two := HX.two hXN (q1.kept TB id) (q2.kept TB (fun _ _ => id)) (q3.kept TB id) (q4.kept TB (fun _ _ => id)) T1 q6 q7 u1 u2 u3 T2 (fun k e => .inr (u5 k e)) u6
    refine ⟨rfl, fun q hq hl => u4.block q hl (fun e => ?_), fun wy hy => ?_⟩
    · rcases e with e | e
      · omega
      · have := (h.e'.lt q e).2; omega
    · have z3 := T2.size
      have z2 := hx.size
      have zb := B0.size
      have e1 : edL W H l true t = del l (pos l t.id) := by simp [edL, hf]
      have e2 : edE W H l es true t = es ++ [s.foot] := by simp [edE, hf, hs]
      unfold PlayedF
      rw [e1, e2]
      exact ⟨n, bv', ev', rb', re', two.1.below hy, hF.del _, by omega, (((Turns.of_below B0).trans (T1.mono (fun k _ hq => .inl (tt1 hq)))).trans (T2.mono (fun k _ hq => .inl (tt2 hq)))).trans (Turns.of_below hy), fun k e => (q6 k e).imp id (fun h => by omega), fun k e => (q7 k e).imp id (fun h => by omega), fun k e => .inr (by have := u5 k e; omega), fun k e => (u6 k e).imp id (fun h => by omega)⟩
theorem playf_place (N : Nat) (w : World) (p r : Nat) (W H : Int) (tl : List Nat) (l : List Bd) (es : List Rc) (bm n : Nat) (tv bv ev rt rb re : Value) (t : Bd) (h : BoAt N w p r W H tl l es bm n tv bv ev rt rb re) (hF : Fine W H l) (hN : N ≤ w.heap.size) (hn : n + 64 ≤ maxLen) (hes : (es.length + 1) * 32 ≤ 211106232532992) :
    Calls Try.prog 24 #[boV p r, edV false t] w fun e w' => e = .returned (.bool true) ∧ PlayedF N w p r W H tl l es bm n tv bv ev rt rb re false t w' := by
  have hcr := code_ref W H l t
  have HM : ∀ X wx, Below w.heap.size w X → Below X.heap.size X wx → Calls Try.prog 28 #[ptr p, t.v] wx fun e w' => e = .returned (.int .i64 (refcode W H l t)) ∧ Below wx.heap.size wx w' := fun X wx b0 b1 => by
    have HX := (h.below b0).below b1
    rw [← hcr]
    exact may_world p bm n W H tv bv ev (whoF l) l t wx HX.d HX.f HX.b hF.sorted hF.len
  have HN : ∀ X wx, Below w.heap.size w X → Below X.heap.size X wx → Calls Try.prog 49 #[ptr r, t.v] wx fun e w' => e = .returned (.int .i64 (refcode W H l t)) ∧ Below wx.heap.size wx w' := fun X wx b0 b1 => by
    have HX := (h.below b0).below b1
    exact refmayw_any r W H rt rb re l t wx HX.d' HX.b' hF.sorted hF.len
  refine play_place_of w p r t (refcode W H l t) _ HM HN (fun X B0 z0 P0 => ?_)
  have HX := h.below B0
  have l1 := h.d.lt
  have l2 := h.f.lt
  have l3 := h.d'.lt
  by_cases hc : refcode W H l t = 0
  · have hc' : code W H (whoF l) l t = 0 := hcr.trans hc
    rw [hc]
    refine (place_yes p bm n W H tv bv ev (whoF l) l es t X HX.d HX.f HX.b HX.e hF.sorted hF.len hn hes hc').mono ?_
    rintro e w1 ⟨rfl, bv', ev', q1, q2, q3, q4, q5, q6, q7⟩
    rw [who_ins (refcode_zero hc).2.2.2] at q3
    have low : ∀ q, (q = p ∨ q = bm ∨ bv.ownBlock = some q ∨ ev.ownBlock = some q) → q < w.heap.size := fun q hq => by
      rcases hq with e | e | e | e
      · omega
      · omega
      · exact (h.b.lt q e).2
      · exact (h.e.lt q e).2
    have P1 := P0.turn q5 (fun hq => by have := low _ hq; omega) (fun hq => by have := low _ hq; omega)
    refine ⟨rfl, P1, ?_⟩
    have doc := HX.doc q5
    have zx := q5.size
    refine (refplacew_yes r W H rt rb re l es t w1 doc.1 doc.2.2.1 doc.2.2.2 hF.sorted hF.len hes hc).mono ?_
    rintro e w3 ⟨rfl, rb', re', u1, u2, u3, u4, u5, u6⟩
    have hXN : N ≤ X.heap.size := by omega
    have two := HX.two hXN q1 q2 q3 q4 q5 q6 q7 u1 u2 u3 u4 u5 u6
    have low' : ∀ q, (q = r ∨ rb.ownBlock = some q ∨ re.ownBlock = some q) → q < w.heap.size := fun q hq => by
      rcases hq with e | e | e
      · omega
      · exact (h.b'.lt q e).2
      · exact (h.e'.lt q e).2
    refine ⟨rfl, P1.turn u4 (fun hq => by have := low' _ hq; omega) (fun hq => by have := low' _ hq; omega), ?_⟩
    have e1 : edL W H l false t = ins l t := by simp [edL, hc]
    have e2 : edE W H l es false t = es ++ [t.foot] := by simp [edE, hc]
    have zb := B0.size
    unfold PlayedF
    rw [e1, e2]
    exact ⟨n + 64, bv', ev', rb', re', two.1, hF.ins hc, by omega, ((Turns.of_below B0).trans (q5.mono (fun k _ hq => .inl (tt1 hq)))).trans (u4.mono (fun k _ hq => .inl (tt2 hq))), fun k e => (q6 k e).imp id (fun h => by omega), fun k e => (q7 k e).imp id (fun h => by omega), fun k e => (u5 k e).imp id (fun h => by omega), fun k e => (u6 k e).imp id (fun h => by omega)⟩
  · have hc' : code W H (whoF l) l t ≠ 0 := fun e => hc (hcr.symm.trans e)
    have HP := place_no p bm n W H tv bv ev (whoF l) l t X HX.d HX.f HX.b hF.sorted hF.len hc'
    rw [hcr] at HP
    refine HP.mono ?_
    rintro e w1 ⟨rfl, hb1⟩
    refine ⟨rfl, P0.kept hb1, ?_⟩
    have H1 := HX.below hb1
    refine (refplacew_no r W H rt rb re l t w1 H1.d' H1.b' hF.sorted hF.len hc).mono ?_
    rintro e w3 ⟨rfl, hb3⟩
    refine ⟨rfl, (P0.kept hb1).kept hb3, ?_⟩
    have e1 : edL W H l false t = l := by simp [edL, hc]
    have e2 : edE W H l es false t = es := by simp [edE, hc]
    unfold PlayedF
    rw [e1, e2]
    exact ⟨n, bv, ev, rb, re, H1.below hb3, hF, by omega, Turns.of_below (bt B0 (bt hb1 hb3)), fun k e => .inl e, fun k e => .inl e, fun k e => .inl e, fun k e => .inl e⟩
theorem playf_any (N : Nat) (w : World) (p r : Nat) (W H : Int) (tl : List Nat) (l : List Bd) (es : List Rc) (bm n : Nat) (tv bv ev rt rb re : Value) (z : Bool) (t : Bd) (h : BoAt N w p r W H tl l es bm n tv bv ev rt rb re) (hF : Fine W H l) (hN : N ≤ w.heap.size) (hn : n + 64 ≤ maxLen) (hes : (es.length + 1) * 32 ≤ 211106232532992) :
    Calls Try.prog 24 #[boV p r, edV z t] w fun e w' => e = .returned (.bool true) ∧ PlayedF N w p r W H tl l es bm n tv bv ev rt rb re z t w' := by
  cases z
  · exact playf_place N w p r W H tl l es bm n tv bv ev rt rb re t h hF hN hn hes
  · exact playf_raze N w p r W H tl l es bm n tv bv ev rt rb re t h hF hN hes
end Go.Proofs.Ytobjadfchpgjeaa
set_option linter.unusedSimpArgs false
namespace Go.Proofs.Ytobjadfchpgjeaa
open Go.RowKit
set_option linter.unusedVariables false
/-- The blocks of a world of the program's that an edit may turn. -/
def CT (c bm : Nat) (bv ev : Value) (k : Nat) : Prop := k = c ∨ k = bm ∨ bv.ownBlock = some k ∨ ev.ownBlock = some k
/-- What an edit leaves of it. -/
def PaF (w : World) (c : Nat) (W H : Int) (tl : List Nat) (l : List Bd) (es : List Rc) (bm n : Nat) (tv bv ev : Value) (z : Bool) (t : Bd) (w' : World) : Prop :=
  ∃ n' bv' ev', Pa w' c W H tl (edL W H l z t) (edE W H l es z t) bm n' tv bv' ev' ∧ Fine W H (edL W H l z t) ∧ n' ≤ n + 64 ∧ Turns (CT c bm bv ev) w w' ∧
    (∀ k, bv'.ownBlock = some k → bv.ownBlock = some k ∨ w.heap.size ≤ k) ∧ ∀ k, ev'.ownBlock = some k → ev.ownBlock = some k ∨ w.heap.size ≤ k
section
variable {w : World} {c bm n : Nat} {W H : Int} {tl : List Nat} {l : List Bd} {es : List Rc} {tv bv ev : Value}
theorem pa_raze (t : Bd) (h : Pa w c W H tl l es bm n tv bv ev) (hF : Fine W H l) (hes : (es.length + 1) * 32 ≤ 211106232532992) :
    Calls Try.prog 22 #[ptr c, .int .i64 t.id] w fun e w' => (∃ a b x y k, e = .returned (.tuple #[rct a b x y, .int .i64 k])) ∧ PaF w c W H tl l es bm n tv bv ev true t w' := by
  cases hf : found l t.id
  · refine (raze_no c bm W H tv bv ev l t.id w h.d h.b hF.sorted hF.len hf).mono ?_
    rintro e w1 ⟨rfl, hb1⟩
    have e1 : edL W H l true t = l := by simp [edL, hf]
    have e2 : edE W H l es true t = es := by simp [edE, hf]
    unfold PaF
    rw [e1, e2]
    exact ⟨⟨_, _, _, _, _, rfl⟩, n, bv, ev, h.below hb1, hF, by omega, Turns.of_below hb1, fun k e => .inl e, fun k e => .inl e⟩
  · obtain ⟨s, hs, -⟩ := (found_iff hF.sorted t.id).1 hf
    refine (raze_yes c bm n W H tv bv ev (whoF l) l es t.id s w h.d h.f h.b h.e hF.sorted hF.len hes hf hs).mono ?_
    rintro e w1 ⟨rfl, bv', ev', q1, q2, q3, q4, q5, q6, q7⟩
    rw [who_del hs hF.apart] at q3
    have e1 : edL W H l true t = del l (pos l t.id) := by simp [edL, hf]
    have e2 : edE W H l es true t = es ++ [s.foot] := by simp [edE, hf, hs]
    unfold PaF
    rw [e1, e2]
    exact ⟨⟨_, _, _, _, _, rfl⟩, n, bv', ev', ⟨q1, h.tiles q5, q2, q3, q4⟩, hF.del _, by omega, q5, q6, q7⟩
theorem pa_place (t : Bd) (h : Pa w c W H tl l es bm n tv bv ev) (hF : Fine W H l) (hn : n + 64 ≤ maxLen) (hes : (es.length + 1) * 32 ≤ 211106232532992) :
    Calls Try.prog 23 #[ptr c, t.v] w fun e w' => (∃ k, e = .returned (.int .i64 k)) ∧ PaF w c W H tl l es bm n tv bv ev false t w' := by
  have hcr := code_ref W H l t
  by_cases hc : refcode W H l t = 0
  · refine (place_yes c bm n W H tv bv ev (whoF l) l es t w h.d h.f h.b h.e hF.sorted hF.len hn hes (hcr.trans hc)).mono ?_
    rintro e w1 ⟨rfl, bv', ev', q1, q2, q3, q4, q5, q6, q7⟩
    rw [who_ins (refcode_zero hc).2.2.2] at q3
    have e1 : edL W H l false t = ins l t := by simp [edL, hc]
    have e2 : edE W H l es false t = es ++ [t.foot] := by simp [edE, hc]
    unfold PaF
    rw [e1, e2]
    exact ⟨⟨_, rfl⟩, n + 64, bv', ev', ⟨q1, h.tiles q5, q2, q3, q4⟩, hF.ins hc, by omega, q5, q6, q7⟩
  · refine (place_no c bm n W H tv bv ev (whoF l) l t w h.d h.f h.b hF.sorted hF.len (fun e => hc (hcr.symm.trans e))).mono ?_
    rintro e w1 ⟨rfl, hb1⟩
    have e1 : edL W H l false t = l := by simp [edL, hc]
    have e2 : edE W H l es false t = es := by simp [edE, hc]
    unfold PaF
    rw [e1, e2]
    exact ⟨⟨_, rfl⟩, n, bv, ev, h.below hb1, hF, by omega, Turns.of_below hb1, fun k e => .inl e, fun k e => .inl e⟩
end
/-- Many edits, one behind the other: the buildings and the edits' rectangles. -/
def runs (W H : Int) (s : List Bd × List Rc) (ms : List (Bool × Bd)) : List Bd × List Rc := ms.foldl (fun s m => (edL W H s.1 m.1 m.2, edE W H s.1 s.2 m.1 m.2)) s
theorem runs_snoc (W H : Int) (s : List Bd × List Rc) (ms : List (Bool × Bd)) (m : Bool × Bd) : runs W H s (ms ++ [m]) = (edL W H (runs W H s ms).1 m.1 m.2, edE W H (runs W H s ms).1 (runs W H s ms).2 m.1 m.2) := by
  simp [runs]
theorem runs_len (W H : Int) (s : List Bd × List Rc) (ms : List (Bool × Bd)) : (runs W H s ms).2.length ≤ s.2.length + ms.length := by
  induction ms generalizing s with
  | nil => exact Nat.le_refl _
  | cons m ms ih =>
    have := ih (edL W H s.1 m.1 m.2, edE W H s.1 s.2 m.1 m.2)
    have h2 := edE_len W H s.1 s.2 m.1 m.2
    simp only [runs, List.foldl_cons, List.length_cons] at this ⊢
    omega
/-- The document's half of one world beside the program's half of another that has the same. -/
theorem BoAt.swap {N : Nat} {w : World} {p c r : Nat} {W H : Int} {tl : List Nat} {l : List Bd} {es : List Rc} {bm bm' n n' : Nat} {tv bv ev tv' bv' ev' rt rb re : Value} (h : BoAt N w p r W H tl l es bm n tv bv ev rt rb re) (hc : Pa w c W H tl l es bm' n' tv' bv' ev')
    (h1 : N ≤ c) (h2 : N ≤ bm') (h3 : ∀ k, bv'.ownBlock = some k → N ≤ k ∧ rb.ownBlock ≠ some k) (h4 : ∀ k, ev'.ownBlock = some k → N ≤ k ∧ re.ownBlock ≠ some k) : BoAt N w c r W H tl l es bm' n' tv' bv' ev' rt rb re :=
  ⟨hc.d, hc.t, hc.b, hc.f, hc.e, h.d', h.t', h.b', h.e', fun k e => (h3 k e).2, fun k e => (h4 k e).2, h1, h.nr, h2, fun k e => (h3 k e).1, fun k e => (h4 k e).1, h.nb', h.ne'⟩
end Go.Proofs.Ytobjadfchpgjeaa
set_option linter.unusedSimpArgs false
namespace Go.Proofs.Ytobjadfchpgjeaa
open Go.RowKit
set_option linter.unusedVariables false
theorem runs_room {W H : Int} {s : List Bd × List Rc} {ms : List (Bool × Bd)} {X : Nat} (h : (s.2.length + ms.length + 1) * 32 ≤ X) : ((runs W H s ms).2.length + 1) * 32 ≤ X :=
  Nat.le_trans (Nat.mul_le_mul_right 32 (Nat.succ_le_succ (runs_len W H s ms))) h
/-- All blocks of a world of the program's. -/
def CA (c bm : Nat) (tv bv ev : Value) (k : Nat) : Prop := CT c bm bv ev k ∨ tv.ownBlock = some k
/-- The copy behind some edits; what lay before it was made lies as it lay. -/
def J3 (w1 : World) (c : Nat) (W H : Int) (tl : List Nat) (s0 : List Bd × List Rc) (bm n0 : Nat) (tv : Value) (ms : List (Bool × Bd)) (wr : World) : Prop :=
  ∃ n bv ev, Pa wr c W H tl (runs W H s0 ms).1 (runs W H s0 ms).2 bm n tv bv ev ∧ Fine W H (runs W H s0 ms).1 ∧ n ≤ n0 + 64 * ms.length ∧ Below w1.heap.size w1 wr ∧ ∀ k, CA c bm tv bv ev k → w1.heap.size ≤ k
section
variable {w1 : World} {c : Nat} {W H : Int} {tl : List Nat} {s0 : List Bd × List Rc} {bm n0 : Nat} {tv : Value} {ms : List (Bool × Bd)} {wr w' : World}
theorem J3.upto (h : J3 w1 c W H tl s0 bm n0 tv ms wr) (hb : Below wr.heap.size wr w') : J3 w1 c W H tl s0 bm n0 tv ms w' := by
  obtain ⟨n, bv, ev, h1, h2, h3, h4, h5⟩ := h
  exact ⟨n, bv, ev, h1.below hb, h2, h3, bt h4 hb, h5⟩
theorem J3.next {z : Bool} {t : Bd} {n : Nat} {bv ev : Value} (h3 : n ≤ n0 + 64 * ms.length) (h4 : Below w1.heap.size w1 wr) (h5 : ∀ k, CA c bm tv bv ev k → w1.heap.size ≤ k) (h : PaF wr c W H tl (runs W H s0 ms).1 (runs W H s0 ms).2 bm n tv bv ev z t w') : J3 w1 c W H tl s0 bm n0 tv (ms ++ [(z, t)]) w' := by
  obtain ⟨n', bv', ev', p1, p2, p3, T, o1, o2⟩ := h
  have z4 := h4.size
  refine ⟨n', bv', ev', ?_, ?_, by simp; omega, h4.trans (T.below (B := w1.heap.size) (fun k hk => h5 k (.inl hk)) z4), fun k hk => ?_⟩
  · rw [runs_snoc]; exact p1
  · rw [runs_snoc]; exact p2
  · rcases hk with (e | e | e | e) | e
    · exact h5 k (.inl (.inl e))
    · exact h5 k (.inl (.inr (.inl e)))
    · rcases o1 k e with e | e
      · exact h5 k (.inl (.inr (.inr (.inl e))))
      · omega
    · rcases o2 k e with e | e
      · exact h5 k (.inl (.inr (.inr (.inr e))))
      · omega
    · exact h5 k (.inr e)
theorem J3.raze (h : J3 w1 c W H tl s0 bm n0 tv ms wr) (t : Bd) (hs : (s0.2.length + ms.length + 1) * 32 ≤ 211106232532992) :
    Calls Try.prog 22 #[ptr c, .int .i64 t.id] wr fun e w' => (∃ a b x y k, e = .returned (.tuple #[rct a b x y, .int .i64 k])) ∧ J3 w1 c W H tl s0 bm n0 tv (ms ++ [(true, t)]) w' := by
  obtain ⟨n, bv, ev, h1, h2, h3, h4, h5⟩ := h
  refine (pa_raze t h1 h2 (runs_room hs)).mono ?_
  rintro e w' ⟨he, hp⟩
  exact ⟨he, J3.next h3 h4 h5 hp⟩
theorem J3.place (h : J3 w1 c W H tl s0 bm n0 tv ms wr) (t : Bd) (hn : n0 + 64 * ms.length + 64 ≤ maxLen) (hs : (s0.2.length + ms.length + 1) * 32 ≤ 211106232532992) :
    Calls Try.prog 23 #[ptr c, t.v] wr fun e w' => (∃ k, e = .returned (.int .i64 k)) ∧ J3 w1 c W H tl s0 bm n0 tv (ms ++ [(false, t)]) w' := by
  obtain ⟨n, bv, ev, h1, h2, h3, h4, h5⟩ := h
  refine (pa_place t h1 h2 (by omega) (runs_room hs)).mono ?_
  rintro e w' ⟨he, hp⟩
  exact ⟨he, J3.next h3 h4 h5 hp⟩
end
/-- Both worlds behind some edits, the copy as it was. -/
def J4 (N : Nat) (w : World) (p r : Nat) (W H : Int) (tl : List Nat) (s0 : List Bd × List Rc) (bm n0 : Nat) (tv rt : Value) (c bc : Nat) (tc vc ec : Value) (nc : Nat) (sc : List Bd × List Rc) (h7 : Nat) (ms : List (Bool × Bd)) (wr : World) : Prop :=
  ∃ n bv ev rb re, (BoAt N wr p r W H tl (runs W H s0 ms).1 (runs W H s0 ms).2 bm n tv bv ev rt rb re ∧ Fine W H (runs W H s0 ms).1 ∧ n ≤ n0 + 64 * ms.length) ∧ Pa wr c W H tl sc.1 sc.2 bc nc tc vc ec ∧ (∀ k, CA c bc tc vc ec k → k < wr.heap.size ∧ ¬ TT p r bm bv ev rb re k) ∧ BB wr h7 (ptr p) (ptr r) ∧ Below w.heap.size w wr
section
variable {N : Nat} {w wr w' : World} {p r : Nat} {W H : Int} {tl : List Nat} {l : List Bd} {es : List Rc} {bm n : Nat} {tv bv ev rt rb re : Value}
theorem BoAt.ge (h : BoAt N w p r W H tl l es bm n tv bv ev rt rb re) {k : Nat} (hk : TT p r bm bv ev rb re k) : N ≤ k := by
  rcases hk with (rfl | rfl | e | e) | (rfl | e | e)
  · exact h.np
  · exact h.nm
  · exact h.nb k e
  · exact h.ne k e
  · exact h.nr
  · exact h.nb' k e
  · exact h.ne' k e
theorem BoAt.lt (h : BoAt N w p r W H tl l es bm n tv bv ev rt rb re) {k : Nat} (hk : TT p r bm bv ev rb re k) : k < w.heap.size := by
  rcases hk with (rfl | rfl | e | e) | (rfl | e | e)
  · exact h.d.lt
  · exact h.f.lt
  · exact (h.b.lt k e).2
  · exact (h.e.lt k e).2
  · exact h.d'.lt
  · exact (h.b'.lt k e).2
  · exact (h.e'.lt k e).2
/-- The box of both is none of them. -/
theorem BoAt.box_ne (h : BoAt N w p r W H tl l es bm n tv bv ev rt rb re) {k : Nat} {a b : Value} (hB : BB w k a b) : ¬ TT p r bm bv ev rb re k := by
  have hk : w.heap[k]? = _ := hB
  rintro ((q | q | q | q) | (q | q | q))
  · subst q
    have a : w.heap[k]? = _ := h.d
    rw [hk] at a
    cases a
  · subst q
    obtain ⟨D, ⟨es', clock, a, -⟩, -⟩ := h.f
    rw [hk] at a
    cases a
  · exact hB.ne_row h.b (by decide) q
  · exact hB.ne_row h.e (by decide) q
  · subst q
    have a : w.heap[k]? = _ := h.d'
    rw [hk] at a
    cases a
  · exact hB.ne_row h.b' (by decide) q
  · exact hB.ne_row h.e' (by decide) q
theorem Pa.apart {S : Nat → Prop} {c bc nc : Nat} {tc vc ec : Value} (h : Pa w c W H tl l es bc nc tc vc ec) (T : Turns S w w') (hS : ∀ k, CA c bc tc vc ec k → ¬ S k) : Pa w' c W H tl l es bc nc tc vc ec :=
  ⟨h.d.kept T (hS _ (.inl (.inl rfl))), h.t.kept T (fun k e => hS k (.inr e)), h.b.kept T (fun k e => hS k (.inl (.inr (.inr (.inl e))))), h.f.kept T (hS _ (.inl (.inr (.inl rfl)))), h.e.kept T (fun k e => hS k (.inl (.inr (.inr (.inr e)))))⟩
end
section
variable {N : Nat} {w : World} {p r : Nat} {W H : Int} {tl : List Nat} {s0 : List Bd × List Rc} {bm n0 : Nat} {tv rt : Value} {c bc : Nat} {tc vc ec : Value} {nc : Nat} {sc : List Bd × List Rc} {h7 : Nat} {ms : List (Bool × Bd)} {wr w' : World}
theorem J4.upto (h : J4 N w p r W H tl s0 bm n0 tv rt c bc tc vc ec nc sc h7 ms wr) (hb : Below wr.heap.size wr w') : J4 N w p r W H tl s0 bm n0 tv rt c bc tc vc ec nc sc h7 ms w' := by
  obtain ⟨n, bv, ev, rb, re, ⟨h1, h2, h3⟩, h4, h5, h6, h8⟩ := h
  have z := hb.size
  exact ⟨n, bv, ev, rb, re, ⟨h1.below hb, h2, h3⟩, h4.below hb, fun k hk => ⟨by have := (h5 k hk).1; omega, (h5 k hk).2⟩, h6.kept hb, bt h8 hb⟩
theorem J4.play (h : J4 N w p r W H tl s0 bm n0 tv rt c bc tc vc ec nc sc h7 ms wr) (hN : w.heap.size ≤ N ∧ N ≤ wr.heap.size) (z : Bool) (t : Bd) (hn : n0 + 64 * ms.length + 64 ≤ maxLen) (hs : (s0.2.length + ms.length + 1) * 32 ≤ 211106232532992) :
    Calls Try.prog 24 #[boV p r, edV z t] wr fun e w' => e = .returned (.bool true) ∧ J4 N w p r W H tl s0 bm n0 tv rt c bc tc vc ec nc sc h7 (ms ++ [(z, t)]) w' := by
  obtain ⟨n, bv, ev, rb, re, ⟨h1, h2, h3⟩, h4, h5, h6, h8⟩ := h
  refine (playf_any N wr p r W H tl _ _ bm n tv bv ev rt rb re z t h1 h2 hN.2 (by omega) (runs_room hs)).mono ?_
  rintro e w' ⟨rfl, n', bv', ev', rb', re', q1, q2, q3, T, o1, o2, o3, o4⟩
  have zT := T.size
  refine ⟨rfl, n', bv', ev', rb', re', ⟨?_, ?_, by simp; omega⟩, h4.apart T (fun k hk => (h5 k hk).2), fun k hk => ⟨by have := (h5 k hk).1; omega, ?_⟩, T.same (h1.box_ne h6) h6, h8.trans (T.below (B := w.heap.size) (fun k hk => Nat.le_trans hN.1 (h1.ge hk)) h8.size)⟩
  · rw [runs_snoc]; exact q1
  · rw [runs_snoc]; exact q2
  · have hk5 := h5 k hk
    rintro ((e | e | e | e) | (e | e | e))
    · exact hk5.2 (.inl (.inl e))
    · exact hk5.2 (.inl (.inr (.inl e)))
    · rcases o1 k e with e | e
      · exact hk5.2 (.inl (.inr (.inr (.inl e))))
      · omega
    · rcases o2 k e with e | e
      · exact hk5.2 (.inl (.inr (.inr (.inr e))))
      · omega
    · exact hk5.2 (.inr (.inl e))
    · rcases o3 k e with e | e
      · exact hk5.2 (.inr (.inr (.inl e)))
      · omega
    · rcases o4 k e with e | e
      · exact hk5.2 (.inr (.inr (.inr e)))
      · omega
end
end Go.Proofs.Ytobjadfchpgjeaa
set_option linter.unusedSimpArgs false
namespace Go.Proofs.Ytobjadfchpgjeaa
open Go.RowKit
set_option linter.unusedVariables false
section
variable {w w' : World} {e : TypeId} {k n g cap j : Nat} {xs : List Value}
theorem row_cell (h : w.ownsRow 0 e k (.slice (some ⟨g, 0, none⟩) n cap) n xs) (hj : j < n * k) : ∃ u, w.cell? ⟨g, j, none⟩ = some u ∧ w.frozen? ⟨g, j, none⟩ = false := by
  rcases h.2 with ⟨he, _⟩ | ⟨g', cap', cur, he, hb, hg, hn, hm, hs, ht⟩
  · cases he
  · simp only [Value.slice.injEq, Option.some.injEq, Addr.mk.injEq, and_true] at he
    obtain ⟨rfl, -, rfl⟩ := he
    have hlt : j < cur.size := by rw [hs]; exact Nat.lt_of_lt_of_le hj (Nat.mul_le_mul_right k hn)
    refine ⟨cur[j], ?_, by simp [World.frozen?, hg]⟩
    rw [cell_of_row w g j _ _ _ hg]
    exact Array.getElem?_eq_getElem hlt
theorem row_set (h : w.ownsRow 0 e k (.slice (some ⟨g, 0, none⟩) n cap) n xs) (j : Nat) (u : Value) : (w.setCell ⟨g, j, none⟩ u).ownsRow 0 e k (.slice (some ⟨g, 0, none⟩) n cap) n (xs.set j u) := by
  refine ⟨by rw [List.length_set]; exact h.1, ?_⟩
  rcases h.2 with ⟨he, _⟩ | ⟨g', cap', cur, he, hb, hg, hn, hm, hs, ht⟩
  · cases he
  · have he' := he
    simp only [Value.slice.injEq, Option.some.injEq, Addr.mk.injEq, and_true] at he'
    obtain ⟨rfl, -, rfl⟩ := he'
    refine .inr ⟨g, cap, cur.setIfInBounds j u, rfl, hb, by simp [World.setCell, Array.getElem?_modify, hg], hn, hm, by simpa using hs, ?_⟩
    rw [← ht, Array.toList_setIfInBounds, List.take_set]
end
/-- The map that was told and is spoilt; what lay ahead of it lies as it lay. -/
def Sp (w3 : World) (W H : Int) (a1 : Option Addr) (n1 c1 : Nat) (a2 : Option Addr) (n2 c2 h : Nat) (wr : World) : Prop :=
  (∃ xs ys, wr.ownsRow 0 5 1 (.slice a1 n1 c1) n1 xs ∧ wr.ownsRow 0 55 5 (.slice a2 n2 c2) n2 ys) ∧ MB wr h W H (.slice a1 n1 c1) (.slice a2 n2 c2) ∧ Below w3.heap.size w3 wr ∧ (∀ k, (Value.slice a1 n1 c1).ownBlock = some k → w3.heap.size ≤ k) ∧ ∀ k, (Value.slice a2 n2 c2).ownBlock = some k → w3.heap.size ≤ k
theorem MB.ne_rows {w : World} {h : Nat} {W H : Int} {a b : Value} (hB : MB w h W H a b) {v : Value} {e : TypeId} {k n : Nat} {xs : List Value} (hv : w.ownsRow 0 e k v n xs) (he : e ≠ 25) : v.ownBlock ≠ some h := by
  intro hh
  rcases hv.2 with ⟨rfl, _⟩ | ⟨g, cap, cur, rfl, hb, hg, _⟩
  · simp [Value.ownBlock] at hh
  · simp [Value.ownBlock] at hh
    subst hh
    rw [show w.heap[g]? = _ from hB] at hg
    simp at hg
    exact he hg.2.symm
section
variable {w3 : World} {W H : Int} {n1 c1 : Nat} {n2 c2 h : Nat} {wr : World}
theorem Sp.one {g : Nat} {a2 : Option Addr} (q : Sp w3 W H (some ⟨g, 0, none⟩) n1 c1 a2 n2 c2 h wr) (j : Nat) (u : Value) : Sp w3 W H (some ⟨g, 0, none⟩) n1 c1 a2 n2 c2 h (wr.setCell ⟨g, j, none⟩ u) := by
  obtain ⟨⟨xs, ys, h1, h2⟩, h3, h4, h5, h6⟩ := q
  have T : Turns (fun k => k = g) wr (wr.setCell ⟨g, j, none⟩ u) := Turns.set (S := fun k => k = g) _ (p := ⟨g, j, none⟩) rfl u
  refine ⟨⟨_, ys, row_set h1 j u, row_kept h2 T (fun k e hk => ?_)⟩, T.same (fun e => h3.ne_rows h1 (by decide) (by simp [Value.ownBlock, e])) h3, h4.setCell (p := ⟨g, j, none⟩) (h5 g rfl) u, h5, h6⟩
  subst hk
  exact rows_ne h1 h2 (by decide) rfl e
theorem Sp.two {g : Nat} {a1 : Option Addr} (q : Sp w3 W H a1 n1 c1 (some ⟨g, 0, none⟩) n2 c2 h wr) (j : Nat) (u : Value) : Sp w3 W H a1 n1 c1 (some ⟨g, 0, none⟩) n2 c2 h (wr.setCell ⟨g, j, none⟩ u) := by
  obtain ⟨⟨xs, ys, h1, h2⟩, h3, h4, h5, h6⟩ := q
  have T : Turns (fun k => k = g) wr (wr.setCell ⟨g, j, none⟩ u) := Turns.set (S := fun k => k = g) _ (p := ⟨g, j, none⟩) rfl u
  refine ⟨⟨xs, _, row_kept h1 T (fun k e hk => ?_), row_set h2 j u⟩, T.same (fun e => h3.ne_rows h2 (by decide) (by simp [Value.ownBlock, e])) h3, h4.setCell (p := ⟨g, j, none⟩) (h6 g rfl) u, h5, h6⟩
  subst hk
  exact rows_ne h2 h1 (by decide) rfl e
end
end Go.Proofs.Ytobjadfchpgjeaa
set_option linter.unusedSimpArgs false
namespace Go.Proofs.Ytobjadfchpgjeaa
open Go.RowKit Go.Maps
set_option linter.unusedVariables false
set_option maxRecDepth 100000 in
set_option maxHeartbeats 2000000 in
theorem clone44 (b n : Nat) (f : Int → Int → Option Int) (w : World) (h : Who w b n f) :
    Calls Try.prog 44 #[.map (some b)] w fun e w' => e = .returned (.map (some w.heap.size)) ∧ Who w' w.heap.size n f ∧ Below w.heap.size w w' := by
  obtain ⟨D, ⟨es, clock, h1, h2⟩, h3⟩ := h
  have HE : Hid (Who (w.alloc (.map es clock)) w.heap.size n f) := hide ⟨D, ⟨es, clock, (MapKept.heap_alloc w _).1, h2⟩, h3⟩
  have hq := fun w => run_eql_map_nil_sl (P := Try.prog) w 69 _ _ (some b) Try.underlying69
  clear h2 h3
  go_enter Try.func44, Try.ntmps44
  go_wp2_with fail
  rw [run_callFunc_extern Try.func63 (by kernel_rfl) (by kernel_rfl) (by kernel_rfl) (e := Extern.MapsClone.clone) (by kernel_rfl), run_maps_clone_sl w 69 h1]
  simp only [Result.andThen]
  rw [Oper.upon_value]
  go_wp2_with fail
  rw [run_typeAssert_map_sl _ 69 20 _ _ _ Try.underlying69]
  simp only [Result.andThen]
  rw [Oper.upon_value]
  go_wp2_with fail
  go_ret
  exact ⟨rfl, HE.out, box1 _ _⟩
theorem wp_only0 {c : Code} {Q : Exit → Act → World → Prop} {a : Act} {w : World} (h : Code.wp Try.prog c (Only (fun a' w' => Q .normal a' w')) a w) : Code.wp Try.prog c Q a w := by
  refine Code.wp_mono ?_ h
  rintro (_ | _ | _ | _ | _) a' w' hO
  all_goals first | exact hO.elim | exact hO
def Copied (w : World) (W H : Int) (tl : List Nat) (l : List Bd) (es : List Rc) (n : Nat) (f : Int → Int → Option Int) (e : Ending) (w' : World) : Prop :=
  ∃ c bm tv bv ev, e = .returned (ptr c) ∧ (Wd w' c W H tv bv bm ev ∧ Tls w' tv tl ∧ Bds w' bv l ∧ Who w' bm n f ∧ Rcs w' ev es) ∧ Below w.heap.size w w' ∧ (w.heap.size ≤ c ∧ w.heap.size ≤ bm ∧ (∀ k, tv.ownBlock = some k → w.heap.size ≤ k) ∧ (∀ k, bv.ownBlock = some k → w.heap.size ≤ k) ∧ ∀ k, ev.ownBlock = some k → w.heap.size ≤ k)
theorem copied_end {w x : World} {W H : Int} {tl : List Nat} {l : List Bd} {es : List Rc} {n bm : Nat} {f : Int → Int → Option Int} {tv bv ev : Value} (h1 : Tls x tv tl) (h2 : Bds x bv l) (h3 : Who x bm n f) (h4 : Rcs x ev es) (hB : Below w.heap.size w x)
    (o1 : ∀ k, tv.ownBlock = some k → w.heap.size ≤ k) (o2 : ∀ k, bv.ownBlock = some k → w.heap.size ≤ k) (o3 : w.heap.size ≤ bm) (o4 : ∀ k, ev.ownBlock = some k → w.heap.size ≤ k) :
    Copied w W H tl l es n f (.returned (ptr x.heap.size)) (x.alloc (.cells #[.int .i64 0, .int .i64 0, .int .i64 W, .int .i64 H, tv, bv, .map (some bm), ev] 71)) := by
  have T : Turns NoB x (x.alloc (.cells #[.int .i64 0, .int .i64 0, .int .i64 W, .int .i64 H, tv, bv, .map (some bm), ev] 71)) := Turns.of_below (box1 _ _)
  exact ⟨_, bm, tv, bv, ev, rfl, ⟨heap_alloc_new x _, h1.kept T (fun _ _ => id), h2.kept T (fun _ _ => id), h3.kept T id, h4.kept T (fun _ _ => id)⟩, bt hB (box1 _ _), hB.size, o3, o1, o2, o4⟩
set_option maxRecDepth 100000 in
set_option maxHeartbeats 8000000 in
theorem copy_world (p bm n : Nat) (W H : Int) (tv bv ev : Value) (tl : List Nat) (l : List Bd) (es : List Rc) (f : Int → Int → Option Int) (w : World) (hd : Wd w p W H tv bv bm ev) (ht : Tls w tv tl) (hl : Bds w bv l) (hw : Who w bm n f) (he : Rcs w ev es) (htl : tl.length ≤ 16384) (hlen : l.length ≤ 256) (hes : es.length * 32 ≤ 211106232532992) :
    Calls Try.prog 20 #[ptr p] w (Copied w W H tl l es n f) := by
  have HM := hide (made_is hd)
  have HS : Hid (∀ wx, Below w.heap.size w wx → (wx.cell? ⟨p, 0, none⟩ = some (.int .i64 0) ∧ wx.cell? ⟨p, 1, none⟩ = some (.int .i64 0) ∧ wx.cell? ⟨p, 2, none⟩ = some (.int .i64 W) ∧ wx.cell? ⟨p, 3, none⟩ = some (.int .i64 H)) ∧ wx.cell? ⟨p, 4, none⟩ = some tv ∧ wx.cell? ⟨p, 5, none⟩ = some bv ∧ wx.cell? ⟨p, 6, none⟩ = some (.map (some bm)) ∧ wx.cell? ⟨p, 7, none⟩ = some ev) := hide fun wx hb => by
    have h := hd.kept (Turns.of_below (S := NoB) hb) id
    exact ⟨⟨h.c 0, h.c 1, h.c 2, h.c 3⟩, h.c 4, h.c 5, h.c 6, h.c 7⟩
  have H8 : Hid (∀ wx, Below w.heap.size w wx → Calls Try.prog 42 #[tv] wx (Cloned wx 5 1 tl.length (tl.map (fun n => Value.int .u8 (n : Nat))))) := hide fun wx hb => clone22 tl tv wx (ht.kept (Turns.of_below (S := NoB) hb) (fun _ _ => id)).r htl
  have H13 : Hid (∀ wx, Below w.heap.size w wx → Calls Try.prog 43 #[bv] wx (Cloned wx 55 5 l.length (l.flatMap Bd.cs))) := hide fun wx hb => clone23 l bv wx (hl.kept (Turns.of_below (S := NoB) hb) (fun _ _ => id)) hlen
  have H18 : Hid (∀ wx, Below w.heap.size w wx → Calls Try.prog 44 #[.map (some bm)] wx fun e w' => e = .returned (.map (some wx.heap.size)) ∧ Who w' wx.heap.size n f ∧ Below wx.heap.size wx w') := hide fun wx hb => clone44 bm n f wx (hw.kept (Turns.of_below (S := NoB) hb) id)
  have H23 : Hid (∀ wx, Below w.heap.size w wx → Calls Try.prog 41 #[ev] wx (Cloned wx 43 4 es.length (es.flatMap Rc.cs))) := hide fun wx hb => clone48 es ev wx (he.kept (Turns.of_below (S := NoB) hb) (fun _ _ => id)) hes
  have B : Below w.heap.size w w.drew := (Below.refl _ _).drew
  clear hd ht hl hw he
  go_enter Try.func20, Try.ntmps20
  go_wp2_with (first | (go_at_call 36; refine HM.out.mono ?_; rintro e w1 ⟨rfl, hw1⟩; have hw2 := hw1.symm; subst hw2))
  clear HM
  refine wp_only0 ?_
  refine wp_region_held_drew (S := fun wx => (wx.cell? ⟨p, 0, none⟩ = some (.int .i64 0) ∧ wx.cell? ⟨p, 1, none⟩ = some (.int .i64 0) ∧ wx.cell? ⟨p, 2, none⟩ = some (.int .i64 W) ∧ wx.cell? ⟨p, 3, none⟩ = some (.int .i64 H)) ∧ wx.cell? ⟨p, 4, none⟩ = some tv ∧ wx.cell? ⟨p, 5, none⟩ = some bv ∧ wx.cell? ⟨p, 6, none⟩ = some (.map (some bm)) ∧ wx.cell? ⟨p, 7, none⟩ = some ev) (by kernel_rfl) (HS.out _ B) (fun hHeld => ?_)
  refine wpAnyH_take (i := 0) (v := ?_) rfl (by kernel_rfl) (by kernel_rfl) (by kernel_rfl) (fun _ _ _ h => h.elim) (Or.inl ⟨by rfl, ?_⟩) (by assumption) ?_
  rotate_left
  · intro wx hSw
    try dsimp only at hSw
    go_simp
    try with_reducible rfl
  try simp only [Act.put, List.getElem_toArray, List.getElem_cons_zero, List.getElem_cons_succ, List.setIfInBounds_toArray, List.set_cons_zero, List.set_cons_succ]
  refine wpAnyH_take (i := 1) (v := ?_) rfl (by kernel_rfl) (by kernel_rfl) (by kernel_rfl) (fun _ _ _ h => h.elim) (Or.inl ⟨by rfl, ?_⟩) (by assumption) ?_
  rotate_left
  · intro wx hSw
    try dsimp only at hSw
    go_simp
    try with_reducible rfl
  try simp only [Act.put, List.getElem_toArray, List.getElem_cons_zero, List.getElem_cons_succ, List.setIfInBounds_toArray, List.set_cons_zero, List.set_cons_succ]
  refine wpAnyH_take (i := 2) (v := ?_) rfl (by kernel_rfl) (by kernel_rfl) (by kernel_rfl) (fun _ _ _ h => h.elim) (Or.inl ⟨by rfl, ?_⟩) (by assumption) ?_
  rotate_left
  · intro wx hSw
    try dsimp only at hSw
    go_simp
    try with_reducible rfl
  try simp only [Act.put, List.getElem_toArray, List.getElem_cons_zero, List.getElem_cons_succ, List.setIfInBounds_toArray, List.set_cons_zero, List.set_cons_succ]
  refine wpAnyH_take (i := 3) (v := ?_) rfl (by kernel_rfl) (by kernel_rfl) (by kernel_rfl) (fun _ _ _ h => h.elim) (Or.inl ⟨by rfl, ?_⟩) (by assumption) ?_
  rotate_left
  · intro wx hSw
    try dsimp only at hSw
    go_simp
    try with_reducible rfl
  try simp only [Act.put, List.getElem_toArray, List.getElem_cons_zero, List.getElem_cons_succ, List.setIfInBounds_toArray, List.set_cons_zero, List.set_cons_succ]
  refine wpAnyH_take (i := 4) (v := ?_) rfl (by kernel_rfl) (by kernel_rfl) (by kernel_rfl) (fun _ _ _ h => h.elim) (Or.inl ⟨by rfl, ?_⟩) (by assumption) ?_
  rotate_left
  · intro wx hSw
    try dsimp only at hSw
    go_simp
    try with_reducible rfl
  try simp only [Act.put, List.getElem_toArray, List.getElem_cons_zero, List.getElem_cons_succ, List.setIfInBounds_toArray, List.set_cons_zero, List.set_cons_succ]
  refine wpAnyH_take (i := 5) (v := ?_) rfl (by kernel_rfl) (by kernel_rfl) (by kernel_rfl) (fun _ _ _ h => h.elim) (Or.inl ⟨by rfl, ?_⟩) (by assumption) ?_
  rotate_left
  · intro wx hSw
    try dsimp only at hSw
    go_simp
    try with_reducible rfl
  try simp only [Act.put, List.getElem_toArray, List.getElem_cons_zero, List.getElem_cons_succ, List.setIfInBounds_toArray, List.set_cons_zero, List.set_cons_succ]
  refine wpAnyH_take (i := 6) (v := ?_) rfl (by kernel_rfl) (by kernel_rfl) (by kernel_rfl) (fun _ _ _ h => h.elim) (Or.inl ⟨by rfl, ?_⟩) (by assumption) ?_
  rotate_left
  · intro wx hSw
    try dsimp only at hSw
    go_simp
    try with_reducible rfl
  try simp only [Act.put, List.getElem_toArray, List.getElem_cons_zero, List.getElem_cons_succ, List.setIfInBounds_toArray, List.set_cons_zero, List.set_cons_succ]
  refine wpAnyH_take (i := 7) (v := ?_) rfl (by kernel_rfl) (by kernel_rfl) (by kernel_rfl) (fun _ _ _ h => h.elim) (Or.inl ⟨by rfl, ?_⟩) (by assumption) ?_
  rotate_left
  · intro wx hSw
    try dsimp only at hSw
    go_simp
    try with_reducible rfl
  try simp only [Act.put, List.getElem_toArray, List.getElem_cons_zero, List.getElem_cons_succ, List.setIfInBounds_toArray, List.set_cons_zero, List.set_cons_succ]
  refine wpAnyH_take (i := 9) (v := ?_) rfl (by kernel_rfl) (by kernel_rfl) (by kernel_rfl) (fun _ _ _ h => h.elim) (Or.inl ⟨by rfl, ?_⟩) (by assumption) ?_
  rotate_left
  · intro wx hSw
    try dsimp only at hSw
    go_simp
    try with_reducible rfl
  try simp only [Act.put, List.getElem_toArray, List.getElem_cons_zero, List.getElem_cons_succ, List.setIfInBounds_toArray, List.set_cons_zero, List.set_cons_succ]
  refine wpAnyH_take (i := 10) (v := ?_) rfl (by kernel_rfl) (by kernel_rfl) (by kernel_rfl) (fun _ _ _ h => h.elim) (Or.inl ⟨by rfl, ?_⟩) (by assumption) ?_
  rotate_left
  · intro wx hSw
    try dsimp only at hSw
    go_simp
    try with_reducible rfl
  try simp only [Act.put, List.getElem_toArray, List.getElem_cons_zero, List.getElem_cons_succ, List.setIfInBounds_toArray, List.set_cons_zero, List.set_cons_succ]
  refine wpAnyH_take (i := 11) (v := ?_) rfl (by kernel_rfl) (by kernel_rfl) (by kernel_rfl) (fun _ _ _ h => h.elim) (Or.inl ⟨by rfl, ?_⟩) (by assumption) ?_
  rotate_left
  · intro wx hSw
    try dsimp only at hSw
    go_simp
    try with_reducible rfl
  try simp only [Act.put, List.getElem_toArray, List.getElem_cons_zero, List.getElem_cons_succ, List.setIfInBounds_toArray, List.set_cons_zero, List.set_cons_succ]
  refine wpAnyH_take (i := 12) (v := ?_) rfl (by kernel_rfl) (by kernel_rfl) (by kernel_rfl) (fun _ _ _ h => h.elim) (Or.inl ⟨by rfl, ?_⟩) (by assumption) ?_
  rotate_left
  · intro wx hSw
    try dsimp only at hSw
    go_simp
    try with_reducible rfl
  try simp only [Act.put, List.getElem_toArray, List.getElem_cons_zero, List.getElem_cons_succ, List.setIfInBounds_toArray, List.set_cons_zero, List.set_cons_succ]
  refine wpAnyH_take (i := 14) (v := ?_) rfl (by kernel_rfl) (by kernel_rfl) (by kernel_rfl) (fun _ _ _ h => h.elim) (Or.inl ⟨by rfl, ?_⟩) (by assumption) ?_
  rotate_left
  · intro wx hSw
    try dsimp only at hSw
    go_simp
    try with_reducible rfl
  try simp only [Act.put, List.getElem_toArray, List.getElem_cons_zero, List.getElem_cons_succ, List.setIfInBounds_toArray, List.set_cons_zero, List.set_cons_succ]
  refine wpAnyH_take (i := 15) (v := ?_) rfl (by kernel_rfl) (by kernel_rfl) (by kernel_rfl) (fun _ _ _ h => h.elim) (Or.inl ⟨by rfl, ?_⟩) (by assumption) ?_
  rotate_left
  · intro wx hSw
    try dsimp only at hSw
    go_simp
    try with_reducible rfl
  try simp only [Act.put, List.getElem_toArray, List.getElem_cons_zero, List.getElem_cons_succ, List.setIfInBounds_toArray, List.set_cons_zero, List.set_cons_succ]
  refine wpAnyH_take (i := 16) (v := ?_) rfl (by kernel_rfl) (by kernel_rfl) (by kernel_rfl) (fun _ _ _ h => h.elim) (Or.inl ⟨by rfl, ?_⟩) (by assumption) ?_
  rotate_left
  · intro wx hSw
    try dsimp only at hSw
    go_simp
    try with_reducible rfl
  try simp only [Act.put, List.getElem_toArray, List.getElem_cons_zero, List.getElem_cons_succ, List.setIfInBounds_toArray, List.set_cons_zero, List.set_cons_succ]
  refine wpAnyH_take (i := 17) (v := ?_) rfl (by kernel_rfl) (by kernel_rfl) (by kernel_rfl) (fun _ _ _ h => h.elim) (Or.inl ⟨by rfl, ?_⟩) (by assumption) ?_
  rotate_left
  · intro wx hSw
    try dsimp only at hSw
    go_simp
    try with_reducible rfl
  try simp only [Act.put, List.getElem_toArray, List.getElem_cons_zero, List.getElem_cons_succ, List.setIfInBounds_toArray, List.set_cons_zero, List.set_cons_succ]
  refine wpAnyH_take (i := 19) (v := ?_) rfl (by kernel_rfl) (by kernel_rfl) (by kernel_rfl) (fun _ _ _ h => h.elim) (Or.inl ⟨by rfl, ?_⟩) (by assumption) ?_
  rotate_left
  · intro wx hSw
    try dsimp only at hSw
    go_simp
    try with_reducible rfl
  try simp only [Act.put, List.getElem_toArray, List.getElem_cons_zero, List.getElem_cons_succ, List.setIfInBounds_toArray, List.set_cons_zero, List.set_cons_succ]
  refine wpAnyH_take (i := 20) (v := ?_) rfl (by kernel_rfl) (by kernel_rfl) (by kernel_rfl) (fun _ _ _ h => h.elim) (Or.inl ⟨by rfl, ?_⟩) (by assumption) ?_
  rotate_left
  · intro wx hSw
    try dsimp only at hSw
    go_simp
    try with_reducible rfl
  try simp only [Act.put, List.getElem_toArray, List.getElem_cons_zero, List.getElem_cons_succ, List.setIfInBounds_toArray, List.set_cons_zero, List.set_cons_succ]
  refine wpAnyH_take (i := 21) (v := ?_) rfl (by kernel_rfl) (by kernel_rfl) (by kernel_rfl) (fun _ _ _ h => h.elim) (Or.inl ⟨by rfl, ?_⟩) (by assumption) ?_
  rotate_left
  · intro wx hSw
    try dsimp only at hSw
    go_simp
    try with_reducible rfl
  try simp only [Act.put, List.getElem_toArray, List.getElem_cons_zero, List.getElem_cons_succ, List.setIfInBounds_toArray, List.set_cons_zero, List.set_cons_succ]
  refine wpAnyH_take (i := 22) (v := ?_) rfl (by kernel_rfl) (by kernel_rfl) (by kernel_rfl) (fun _ _ _ h => h.elim) (Or.inl ⟨by rfl, ?_⟩) (by assumption) ?_
  rotate_left
  · intro wx hSw
    try dsimp only at hSw
    go_simp
    try with_reducible rfl
  try simp only [Act.put, List.getElem_toArray, List.getElem_cons_zero, List.getElem_cons_succ, List.setIfInBounds_toArray, List.set_cons_zero, List.set_cons_succ]
  refine wpAnyH_ready (rs := [8]) (by kernel_rfl) (by simp) ?_
  refine AllReadyH.cons rfl (fun K hK => ?_) ?_
  · go_simp
    refine (H8.out _ B).mono ?_
    rintro e y ⟨a8, c8, rfl, P8, hb, O8⟩
    have O8 := fun k e => Nat.le_trans B.size (O8 k e)
    have B := bt B hb
    refine hK.out _ _ ?_ (fun hHeld => ?_)
    · first | exact HS.out _ B | exact HS.out _ (bt B0 (box1 _ _))
    clear hK K
    try simp only [Act.put, List.getElem_toArray, List.getElem_cons_zero, List.getElem_cons_succ, List.setIfInBounds_toArray, List.set_cons_zero, List.set_cons_succ]
    refine wpAnyH_ready (rs := [13]) (by kernel_rfl) (by simp) ?_
    refine AllReadyH.cons rfl (fun K hK => ?_) ?_
    · go_simp
      refine (H13.out _ B).mono ?_
      rintro e y ⟨a13, c13, rfl, P13, hb, O13⟩
      have O13 := fun k e => Nat.le_trans B.size (O13 k e)
      have P8 := row_kept P8 (Turns.of_below (S := NoB) hb) (fun _ _ => id)
      have B := bt B hb
      refine hK.out _ _ ?_ (fun hHeld => ?_)
      · first | exact HS.out _ B | exact HS.out _ (bt B0 (box1 _ _))
      clear hK K
      try simp only [Act.put, List.getElem_toArray, List.getElem_cons_zero, List.getElem_cons_succ, List.setIfInBounds_toArray, List.set_cons_zero, List.set_cons_succ]
      refine wpAnyH_ready (rs := [18]) (by kernel_rfl) (by simp) ?_
      refine AllReadyH.cons rfl (fun K hK => ?_) ?_
      · go_simp
        refine (H18.out _ B).mono ?_
        rintro e y ⟨rfl, P18, hb⟩
        have O18 := B.size
        have P8 := row_kept P8 (Turns.of_below (S := NoB) hb) (fun _ _ => id)
        have P13 := row_kept P13 (Turns.of_below (S := NoB) hb) (fun _ _ => id)
        have B := bt B hb
        refine hK.out _ _ ?_ (fun hHeld => ?_)
        · first | exact HS.out _ B | exact HS.out _ (bt B0 (box1 _ _))
        clear hK K
        try simp only [Act.put, List.getElem_toArray, List.getElem_cons_zero, List.getElem_cons_succ, List.setIfInBounds_toArray, List.set_cons_zero, List.set_cons_succ]
        refine wpAnyH_ready (rs := [23]) (by kernel_rfl) (by simp) ?_
        refine AllReadyH.cons rfl (fun K hK => ?_) ?_
        · go_simp
          refine (H23.out _ B).mono ?_
          rintro e y ⟨a23, c23, rfl, P23, hb, O23⟩
          have O23 := fun k e => Nat.le_trans B.size (O23 k e)
          have P8 := row_kept P8 (Turns.of_below (S := NoB) hb) (fun _ _ => id)
          have P13 := row_kept P13 (Turns.of_below (S := NoB) hb) (fun _ _ => id)
          have P18 := P18.kept (Turns.of_below (S := NoB) hb) id
          have B := bt B hb
          refine hK.out _ _ ?_ (fun hHeld => ?_)
          · first | exact HS.out _ B | exact HS.out _ (bt B0 (box1 _ _))
          clear hK K
          try simp only [Act.put, List.getElem_toArray, List.getElem_cons_zero, List.getElem_cons_succ, List.setIfInBounds_toArray, List.set_cons_zero, List.set_cons_succ]
          refine wpAnyH_take (i := 24) (v := ?_) rfl (by kernel_rfl) (by kernel_rfl) (by kernel_rfl) (fun _ _ _ h => h.elim) (Or.inl ⟨by rfl, ?_⟩) (by assumption) ?_
          rotate_left
          · intro wx hSw
            try dsimp only at hSw
            go_simp
            try with_reducible rfl
          try simp only [Act.put, List.getElem_toArray, List.getElem_cons_zero, List.getElem_cons_succ, List.setIfInBounds_toArray, List.set_cons_zero, List.set_cons_succ]
          have B0 := B
          refine wpAnyH_ready (rs := [25]) (by kernel_rfl) (by simp) ?_
          refine AllReadyH.cons rfl (fun K hK => ?_) ?_
          · go_simp
            refine hK.out _ _ ?_ (fun hHeld => ?_)
            · first | exact HS.out _ B | exact HS.out _ (bt B0 (box1 _ _))
            clear hK K
            try simp only [Act.put, List.getElem_toArray, List.getElem_cons_zero, List.getElem_cons_succ, List.setIfInBounds_toArray, List.set_cons_zero, List.set_cons_succ]
            refine wpAnyH_ready (rs := [26]) (by kernel_rfl) (by simp) ?_
            refine AllReadyH.cons rfl (fun K hK => ?_) ?_
            · go_simp
              refine hK.out _ _ ?_ (fun hHeld => ?_)
              · first | exact HS.out _ B | exact HS.out _ (bt B0 (box1 _ _))
              clear hK K
              try simp only [Act.put, List.getElem_toArray, List.getElem_cons_zero, List.getElem_cons_succ, List.setIfInBounds_toArray, List.set_cons_zero, List.set_cons_succ]
              refine wpAnyH_done (by kernel_rfl) ?_ _
              show Exit.inBlock 1 _ Exit.normal _ _
              go_wp2_with fail
              go_ret
              exact copied_end P8 P13 P18 P23 B0 O8 O13 O18 O23
            exact AllReadyH.nil
          exact AllReadyH.nil
        exact AllReadyH.nil
      exact AllReadyH.nil
    exact AllReadyH.nil
  exact AllReadyH.nil
end Go.Proofs.Ytobjadfchpgjeaa
set_option linter.unusedSimpArgs false
namespace Go.Proofs.Ytobjadfchpgjeaa
open Go.RowKit
set_option linter.unusedVariables false
theorem take_snoc {α : Type} {l : List α} {k : Nat} {t : α} (h : l[k]? = some t) : l.take (k + 1) = l.take k ++ [t] := by
  rw [List.take_add_one, h]; rfl
theorem J3.far {w1 : World} {c : Nat} {W H : Int} {tl : List Nat} {s0 : List Bd × List Rc} {bm n0 : Nat} {tv : Value} {ms : List (Bool × Bd)} {wr w' : World} (h : J3 w1 c W H tl s0 bm n0 tv ms wr) (hb : Below wr.heap.size wr w') : J3 w1 c W H tl s0 bm n0 tv ms w' := h.upto hb
theorem Pa.lt {w : World} {W H : Int} {tl : List Nat} {l : List Bd} {es : List Rc} {c bc nc : Nat} {tc vc ec : Value} (h : Pa w c W H tl l es bc nc tc vc ec) {k : Nat} (hk : CA c bc tc vc ec k) : k < w.heap.size := by
  rcases hk with (rfl | rfl | e | e) | e
  · exact h.d.lt
  · exact h.f.lt
  · exact (h.b.lt k e).2
  · exact (h.e.lt k e).2
  · exact (h.t.lt k e).2
set_option maxRecDepth 100000 in
set_option maxHeartbeats 8000000 in
theorem apart_good (W H : Int) (tv bv lv mv : Value) (tl : List Nat) (L : List Bd) (Ks Ms : List (Bool × Bd)) (w : World) (hv : TlR w tv tl) (hb : ∀ x ∈ tl, x < 256) (hl : BdR w bv L) (ht : tl.length ≤ 140737488355328) (hL : L.length * 40 ≤ 140737488355328) (hK : EdR w lv Ks) (hM : EdR w mv Ms) (hc : chkC W H tl L = 0) :
    Calls Try.prog 5 #[mp W H tv bv, lv, mv] w fun e w' => e = .returned (.bool true) ∧ Below w.heap.size w w' := by
  have B0 := box1 w (.cells #[.int .i64 W, .int .i64 H, tv, bv] 25)
  have M0 : MB (w.alloc (.cells #[.int .i64 W, .int .i64 H, tv, bv] 25)) w.heap.size W H tv bv := heap_alloc_new w _
  obtain ⟨X, hX⟩ : ∃ X, w.alloc (.cells #[.int .i64 W, .int .i64 H, tv, bv] 25) = X := ⟨_, rfl⟩
  rw [hX] at B0 M0
  have HMd := hide (made_good W H tv bv lv tl L Ks X (hv.kept B0) hb (hl.kept B0) ht hL (hK.kept B0) hc)
  have HA : Hid (∀ wx, Calls Try.prog 10 #[] wx fun e w' => e = .returned (.bool true) ∧ Below wx.heap.size wx w') := hide awake_any
  have hmt : mt W H tl = true := (chkC_zero hc).1
  have HT := hide hmt
  have htl : tl.length ≤ 16384 := mt_len hmt
  obtain ⟨a1, cap1, rfl, -⟩ := hv
  obtain ⟨a2, cap2, rfl, -⟩ := hl
  obtain ⟨a3, cap3, rfl, -⟩ := hK
  obtain ⟨a4, cap4, rfl, hM1, hM2, hM3⟩ := hM
  have hs : Ms.length ≤ 2932031007402 := by omega
  have HMs := hide hM3
  have hB0z := B0.size
  clear hc hb hM3 hmt
  obtain ⟨m0, m1, m2, m3⟩ := M0.c
  go_enter Try.func5, Try.ntmps5
  go_wp2_with fail
  refine HMd.out.mono ?_
  rintro e w1 ⟨p, r, rfl, k0, ⟨hBB, ⟨l, es, bm, n, tv', bv', ev, rt, rb, re, hAt, hF, hes, hn⟩, hb1, hz⟩, hk0⟩
  have HB1 := hide (bt B0 hb1)
  have z1 := (bt B0 hb1).size
  have BX2 : BB (w1.alloc (.cells #[ptr p, ptr r] 30)) w1.heap.size (ptr p) (ptr r) := heap_alloc_new w1 _
  have A2 := hAt.below (box1 w1 (.cells #[ptr p, ptr r] 30))
  have B2 : Below w.heap.size w (w1.alloc (.cells #[ptr p, ptr r] 30)) := bt HB1.out (box1 w1 _)
  obtain ⟨w2, hw2⟩ : ∃ w2, w1.alloc (.cells #[ptr p, ptr r] 30) = w2 := ⟨_, rfl⟩
  rw [hw2] at BX2 A2 B2
  have hes47 : (es.length + Ms.length + 1) * 32 ≤ 211106232532992 := by omega
  have HCp := hide (copy_world p bm n W H tv' bv' ev tl l es (whoF l) w2 A2.d A2.t A2.b A2.f A2.e htl hF.len (by omega))
  have HA2 := hide A2
  have HB2 := hide B2
  have HF := hide hF
  have HX2 := hide BX2
  have HAt := hide hAt
  have hN2 : w.heap.size ≤ X.heap.size + 2 ∧ X.heap.size + 2 ≤ w2.heap.size := ⟨by omega, by rw [← hw2]; simp; omega⟩
  obtain ⟨c0, c1, -, -⟩ := BX2.c
  have Hw2 := hide hw2
  clear hX m0 m1 m2 m3 M0 hb1 HMd B0 hBB hAt hF A2 B2 BX2
  go_wp2_with fail
  refine HCp.out.mono ?_
  rintro e w3 ⟨c, bc, tc, vc, ec, rfl, ⟨d1, d2, d3, d4, d5⟩, hb3, q1, q2, q3, q4, q5⟩
  have P3 : Pa w3 c W H tl l es bc n tc vc ec := ⟨d1, d2, d3, d4, d5⟩
  have G3 : J3 w2 c W H tl (l, es) bc n tc [] w3 := ⟨n, vc, ec, P3, HF.out, by simp, hb3, fun k hk => by
    rcases hk with (e | e | e | e) | e
    · omega
    · omega
    · exact q4 k e
    · exact q5 k e
    · exact q3 k e⟩
  have A3 := HA2.out.below hb3
  have X3 := HX2.out.kept hb3
  have HMp := hide (map_world p bm W H tv' bv' ev tl l w3 A3.d A3.t A3.b htl HF.out.len)
  have HG3 := hide G3
  have HB3 := hide (bt HB2.out hb3)
  have z3 := hb3.size
  obtain ⟨x0, x1, -, -⟩ := X3.c
  clear d1 d2 d3 d4 d5 P3 G3 A3 X3 hb3 q1 q2 q3 q4 q5 c0 c1 HCp hw2
  go_wp2_with fail
  refine HMp.out.mono ?_
  rintro e w4 ⟨e1, k1, e2, k2, rfl, t1, t2, hb4, o1, o2⟩
  have M5 : MB (w4.alloc (.cells #[.int .i64 W, .int .i64 H, .slice e1 tl.length k1, .slice e2 l.length k2] 25)) w4.heap.size W H (.slice e1 tl.length k1) (.slice e2 l.length k2) := heap_alloc_new w4 _
  have S5 : Sp w3 W H e1 tl.length k1 e2 l.length k2 w4.heap.size (w4.alloc (.cells #[.int .i64 W, .int .i64 H, .slice e1 tl.length k1, .slice e2 l.length k2] 25)) :=
    ⟨⟨_, _, row_kept t1 (Turns.of_below (S := NoB) (box1 _ _)) (fun _ _ => id), row_kept t2 (Turns.of_below (S := NoB) (box1 _ _)) (fun _ _ => id)⟩, M5, bt hb4 (box1 _ _), o1, o2⟩
  have HS5 := hide S5
  obtain ⟨w5, hw5⟩ : ∃ w5, w4.alloc (.cells #[.int .i64 W, .int .i64 H, .slice e1 tl.length k1, .slice e2 l.length k2] 25) = w5 := ⟨_, rfl⟩
  rw [hw5] at HS5
  clear t1 t2 hb4 o1 o2 M5 S5 x0 x1 HMp
  go_wp2_with fail
  clear hw5
  go_loopw [12] (fun d wr => ∃ i : Nat, i ≤ tl.length ∧ d = .int .i64 (i : Nat) ∧ Sp w3 W H e1 tl.length k1 e2 l.length k2 w4.heap.size wr) (fun d _ => tl.length - (intOf d).toNat)
  case atStart => exact ⟨0, by omega, rfl, HS5.out⟩
  case round =>
    obtain ⟨i, hi, rfl, hS⟩ := hrel
    have HS := hide hS
    obtain ⟨⟨xs, ys, r1, r2⟩, hMB, -, -, -⟩ := hS
    obtain ⟨m0, m1, m2, m3⟩ := hMB.c
    by_cases hlt : i < tl.length
    · have hli : ((i : Nat) : Int) < (tl.length : Nat) := by omega
      have hiI : (0 : Int) ≤ (i : Nat) ∧ ((i : Nat) : Int) ≤ 16384 := by omega
      rcases r1.2 with ⟨h0, h1⟩ | ⟨g, cap, cur, h0, -, -, h3, -⟩
      · omega
      · simp only [Value.slice.injEq] at h0
        obtain ⟨rfl, -, rfl⟩ := h0
        obtain ⟨u, cu, fu⟩ := row_cell (j := i) r1 (by omega)
        have HS2 := hide (HS.out.one i (.int .u8 9))
        clear r1 r2 hMB
        go_wp2_with fail
        go_roundw
        case rel => exact ⟨i + 1, by omega, by go_num, HS2.out⟩
        case measure => simp [intOf]; omega
    · have hli : ¬ ((i : Nat) : Int) < (tl.length : Nat) := by omega
      clear r1 r2 hMB
      go_wp2_with fail
      clear m0 m1 m2 m3
      rename World => wa
      go_loopw [13] (fun d wr => ∃ i : Nat, i ≤ l.length ∧ d = .int .i64 (i : Nat) ∧ Sp w3 W H e1 tl.length k1 e2 l.length k2 w4.heap.size wr) (fun d _ => l.length - (intOf d).toNat)
      case atStart => exact ⟨0, by omega, rfl, HS.out⟩
      case round =>
        obtain ⟨j, hj, rfl, hS⟩ := hrel
        have HSj := hide hS
        obtain ⟨⟨xs, ys, r1, r2⟩, hMB, -, -, -⟩ := hS
        obtain ⟨m0, m1, m2, m3⟩ := hMB.c
        by_cases hlt2 : j < l.length
        · have hlj : ((j : Nat) : Int) < (l.length : Nat) := by omega
          have hll := HF.out.len
          have hjI : (0 : Int) ≤ (j : Nat) ∧ ((j : Nat) : Int) ≤ 256 := by omega
          rcases r2.2 with ⟨h0, h1⟩ | ⟨g, cap, cur, h0, -, -, h3, -⟩
          · omega
          · simp only [Value.slice.injEq] at h0
            obtain ⟨rfl, -, rfl⟩ := h0
            obtain ⟨u, cu, fu⟩ := row_cell (j := j * 5) r2 (by omega)
            have HS2 := hide (HSj.out.two (j * 5) (.int .i64 0))
            clear r1 r2 hMB
            go_wp2_with fail
            go_roundw
            case rel => exact ⟨j + 1, by omega, by go_num, HS2.out⟩
            case measure => simp [intOf]; omega
        · have hlj : ¬ ((j : Nat) : Int) < (l.length : Nat) := by omega
          have G5 := hide (HG3.out.far HSj.out.2.2.1)
          clear r1 r2 hMB
          go_wp2_with fail
          clear m0 m1 m2 m3
          rename World => wb
          go_loopw [14] (fun d wr => ∃ i : Nat, i ≤ Ms.length ∧ d = .int .i64 (i : Nat) ∧ J3 w2 c W H tl (l, es) bc n tc (Ms.take i) wr) (fun d _ => Ms.length - (intOf d).toNat)
          case atStart =>
            refine ⟨0, by omega, rfl, ?_⟩
            rw [List.take_zero]
            exact G5.out
          case round =>
            obtain ⟨i3, hi3, rfl, hJ⟩ := hrel
            rename World => wc
            have hJb : Below w2.heap.size w2 wc := by obtain ⟨_, _, _, -, -, -, h, -⟩ := hJ; exact h
            have HJb := hide hJb
            have HJ := hide hJ
            by_cases hlt3 : i3 < Ms.length
            · have hl3 : ((i3 : Nat) : Int) < (Ms.length : Nat) := by omega
              have hi3I : (0 : Int) ≤ (i3 : Nat) ∧ ((i3 : Nat) : Int) ≤ 2932031007402 := by omega
              obtain ⟨⟨z, t⟩, htt⟩ : ∃ t, Ms[i3]? = some t := ⟨_, List.getElem?_eq_getElem hlt3⟩
              obtain ⟨g4, o, rfl, -, y0, y1, y2, y3, y4, y5⟩ := (HMs.out i3 _ htt).kept (Nat.le_refl _) (bt HB2.out hJb)
              have hsn := take_snoc htt
              have hsi : ((l, es).2.length + (Ms.take i3).length + 1) * 32 ≤ 211106232532992 := by
                rw [List.length_take]
                exact Nat.le_trans (Nat.mul_le_mul_right 32 (by show es.length + min i3 Ms.length + 1 ≤ es.length + Ms.length + 1; omega)) hes47
              have hni : n + 64 * (Ms.take i3).length + 64 ≤ maxLen := by
                rw [List.length_take]
                unfold maxLen
                omega
              cases z
              · have HC := hide (hJ.place t hni hsi)
                rw [← hsn] at HC
                clear hJ hJb hsn hsi hni htt
                go_wp2_with fail
                refine HC.out.mono ?_
                rintro e w8 ⟨⟨kk, rfl⟩, hJ8⟩
                have HJ8 := hide hJ8
                clear HC HJ HJb hJ8 y0 y1 y2 y3 y4 y5
                go_wp2_with fail
                go_roundw
                case rel => exact ⟨i3 + 1, by omega, by go_num, HJ8.out⟩
                case measure => simp [intOf]; omega
              · have HC := hide (hJ.raze t hsi)
                rw [← hsn] at HC
                clear hJ hJb hsn hsi hni htt
                go_wp2_with fail
                refine HC.out.mono ?_
                rintro e w8 ⟨⟨ka, kb, kc, kd, kk, rfl⟩, hJ8⟩
                have HJ8 := hide hJ8
                clear HC HJ HJb hJ8 y0 y1 y2 y3 y4 y5
                go_wp2_with fail
                go_roundw
                case rel => exact ⟨i3 + 1, by omega, by go_num, HJ8.out⟩
                case measure => simp [intOf]; omega
            · have hl3 : ¬ ((i3 : Nat) : Int) < (Ms.length : Nat) := by omega
              rw [List.take_of_length_le (by omega)] at hJ
              obtain ⟨nc, vC, eC, pC, fC, -, -, oC⟩ := hJ
              have A6 := HA2.out.below hJb
              have HI6 := hide (is_any A6 HF.out HT.out (by omega))
              have X6 := HX2.out.kept hJb
              obtain ⟨x0, x1, -, -⟩ := X6.c
              have HPc := hide pC
              have HoC := hide oC
              have HX6 := hide X6
              clear hJb pC oC A6 X6 HJ fC
              go_wp2_with fail
              refine HI6.out.mono ?_
              rintro e w9 ⟨rfl, hb9⟩
              have K0 : J4 (X.heap.size + 2) w p r W H tl (l, es) bm n tv' rt c bc tc vC eC nc (runs W H (l, es) Ms) w1.heap.size (Ms.take 0) w9 := by
                have q := bt HJb.out hb9
                rw [List.take_zero]
                refine ⟨n, bv', ev, rb, re, ⟨HA2.out.below q, HF.out, by simp⟩, HPc.out.below hb9, fun k hk => ⟨?_, fun hT => ?_⟩, HX6.out.kept hb9, bt HB2.out q⟩
                · have := HPc.out.lt hk
                  have := hb9.size
                  omega
                · have h1 := HA2.out.lt hT
                  have h2 := HoC.out k hk
                  omega
              have HK0 := hide K0
              clear hb9 K0 x0 x1 HI6
              go_wp2_with fail
              go_loopw [15] (fun d wr => ∃ i : Nat, i ≤ Ms.length ∧ d = .int .i64 (i : Nat) ∧ J4 (X.heap.size + 2) w p r W H tl (l, es) bm n tv' rt c bc tc vC eC nc (runs W H (l, es) Ms) w1.heap.size (Ms.take i) wr) (fun d _ => Ms.length - (intOf d).toNat)
              case atStart => exact ⟨0, by omega, rfl, HK0.out⟩
              case round =>
                obtain ⟨i4, hi4, rfl, hJ⟩ := hrel
                rename World => wd4
                have HJ := hide hJ
                obtain ⟨nn, bV, eV, rB, rE, ⟨hBo, hFi, hnn⟩, hPa, hSep, hBx, hBl⟩ := hJ
                by_cases hlt4 : i4 < Ms.length
                · have hl4 : ((i4 : Nat) : Int) < (Ms.length : Nat) := by omega
                  have hi4I : (0 : Int) ≤ (i4 : Nat) ∧ ((i4 : Nat) : Int) ≤ 2932031007402 := by omega
                  obtain ⟨⟨z, t⟩, htt⟩ : ∃ t, Ms[i4]? = some t := ⟨_, List.getElem?_eq_getElem hlt4⟩
                  have hEd := (HMs.out i4 _ htt).kept (Nat.le_refl _) hBl
                  obtain ⟨g4, o, rfl, -, y0, y1, y2, y3, y4, y5⟩ := hEd
                  have HEd0 := hide (HMs.out i4 _ htt)
                  have HSW : Hid (∀ ms wx, J4 (X.heap.size + 2) w p r W H tl (l, es) bm n tv' rt c bc tc vC eC nc (runs W H (l, es) Ms) w1.heap.size ms wx → (wx.cell? ⟨w1.heap.size, 0, none⟩ = some (ptr p) ∧ wx.cell? ⟨w1.heap.size, 1, none⟩ = some (ptr r)) ∧ wx.cell? ⟨g4, o + i4 * 6, none⟩ = some (.bool z) ∧ wx.cell? ⟨g4, o + i4 * 6 + 1, none⟩ = some (.int .i64 t.id) ∧ wx.cell? ⟨g4, o + i4 * 6 + 2, none⟩ = some (.int .i64 t.x) ∧ wx.cell? ⟨g4, o + i4 * 6 + 3, none⟩ = some (.int .i64 t.y) ∧ wx.cell? ⟨g4, o + i4 * 6 + 4, none⟩ = some (.int .i64 t.a) ∧ wx.cell? ⟨g4, o + i4 * 6 + 5, none⟩ = some (.int .i64 t.b)) := hide fun ms wx hJ => by
                    obtain ⟨_, _, _, _, _, -, -, -, b, d⟩ := hJ
                    obtain ⟨b0, b1, -, -⟩ := b.c
                    obtain ⟨g5, o5, ee, -, z0, z1, z2, z3, z4, z5⟩ := HEd0.out.kept (Nat.le_refl _) d
                    cases ee
                    exact ⟨⟨b0, b1⟩, z0, z1, z2, z3, z4, z5⟩
                  have hsn := take_snoc htt
                  have hsi : ((l, es).2.length + (Ms.take i4).length + 1) * 32 ≤ 211106232532992 := by
                    rw [List.length_take]
                    exact Nat.le_trans (Nat.mul_le_mul_right 32 (by show es.length + min i4 Ms.length + 1 ≤ es.length + Ms.length + 1; omega)) hes47
                  have hni : n + 64 * (Ms.take i4).length + 64 ≤ maxLen := by
                    rw [List.length_take]
                    unfold maxLen
                    omega
                  have hNw : X.heap.size + 2 ≤ wd4.heap.size := Nat.le_trans hBo.np (Nat.le_of_lt hBo.d.lt)
                  have D4 := HJ.out.upto (Below.refl _ wd4).drew
                  have HC := hide (D4.play ⟨hN2.1, hNw⟩ z t hni hsi)
                  rw [← hsn] at HC
                  clear hBo hFi hPa hSep hBx hBl hsn hsi hni htt y0 y1 y2 y3 y4 y5
                  go_wp2_with fail
                  refine wp_only ?_
                  refine wp_region_held_drew (S := fun wx => (wx.cell? ⟨w1.heap.size, 0, none⟩ = some (ptr p) ∧ wx.cell? ⟨w1.heap.size, 1, none⟩ = some (ptr r)) ∧ wx.cell? ⟨g4, o + i4 * 6, none⟩ = some (.bool z) ∧ wx.cell? ⟨g4, o + i4 * 6 + 1, none⟩ = some (.int .i64 t.id) ∧ wx.cell? ⟨g4, o + i4 * 6 + 2, none⟩ = some (.int .i64 t.x) ∧ wx.cell? ⟨g4, o + i4 * 6 + 3, none⟩ = some (.int .i64 t.y) ∧ wx.cell? ⟨g4, o + i4 * 6 + 4, none⟩ = some (.int .i64 t.a) ∧ wx.cell? ⟨g4, o + i4 * 6 + 5, none⟩ = some (.int .i64 t.b)) (by kernel_rfl) (HSW.out _ _ D4) (fun hHeld => ?_)
                  refine wpAnyH_take (i := 0) (v := ?_) rfl (by kernel_rfl) (by kernel_rfl) (by kernel_rfl) (fun _ _ _ h => h.elim) (Or.inl ⟨by rfl, ?_⟩) (by assumption) ?_
                  rotate_left
                  · intro wx hSw
                    try dsimp only at hSw
                    go_simp
                    try with_reducible rfl
                  try simp only [Act.put, List.getElem_toArray, List.getElem_cons_zero, List.getElem_cons_succ, List.setIfInBounds_toArray, List.set_cons_zero, List.set_cons_succ]
                  refine wpAnyH_take (i := 1) (v := ?_) rfl (by kernel_rfl) (by kernel_rfl) (by kernel_rfl) (fun _ _ _ h => h.elim) (Or.inl ⟨by rfl, ?_⟩) (by assumption) ?_
                  rotate_left
                  · intro wx hSw
                    try dsimp only at hSw
                    go_simp
                    try with_reducible rfl
                  try simp only [Act.put, List.getElem_toArray, List.getElem_cons_zero, List.getElem_cons_succ, List.setIfInBounds_toArray, List.set_cons_zero, List.set_cons_succ]
                  refine wpAnyH_take (i := 2) (v := ?_) rfl (by kernel_rfl) (by kernel_rfl) (by kernel_rfl) (fun _ _ _ h => h.elim) (Or.inl ⟨by rfl, ?_⟩) (by assumption) ?_
                  rotate_left
                  · intro wx hSw
                    try dsimp only at hSw
                    go_simp
                    try with_reducible rfl
                  try simp only [Act.put, List.getElem_toArray, List.getElem_cons_zero, List.getElem_cons_succ, List.setIfInBounds_toArray, List.set_cons_zero, List.set_cons_succ]
                  refine wpAnyH_take (i := 3) (v := ?_) rfl (by kernel_rfl) (by kernel_rfl) (by kernel_rfl) (fun _ _ _ h => h.elim) (Or.inl ⟨by rfl, ?_⟩) (by assumption) ?_
                  rotate_left
                  · intro wx hSw
                    try dsimp only at hSw
                    go_simp
                    try with_reducible rfl
                  try simp only [Act.put, List.getElem_toArray, List.getElem_cons_zero, List.getElem_cons_succ, List.setIfInBounds_toArray, List.set_cons_zero, List.set_cons_succ]
                  refine wpAnyH_take (i := 4) (v := ?_) rfl (by kernel_rfl) (by kernel_rfl) (by kernel_rfl) (fun _ _ _ h => h.elim) (Or.inl ⟨by rfl, ?_⟩) (by assumption) ?_
                  rotate_left
                  · intro wx hSw
                    try dsimp only at hSw
                    go_simp
                    try with_reducible rfl
                  try simp only [Act.put, List.getElem_toArray, List.getElem_cons_zero, List.getElem_cons_succ, List.setIfInBounds_toArray, List.set_cons_zero, List.set_cons_succ]
                  refine wpAnyH_ready (rs := [5]) (by kernel_rfl) (by simp) ?_
                  refine AllReadyH.cons rfl (fun K hK => ?_) ?_
                  · go_simp
                    refine HC.out.mono ?_
                    rintro e w8 ⟨rfl, hJ8⟩
                    have HJ8 := hide hJ8
                    refine hK.out _ _ ?_ (fun hHeld => ?_)
                    · first | exact HSW.out _ _ HJ8.out | exact HSW.out _ _ D4
                    clear hK K
                    try simp only [Act.put, List.getElem_toArray, List.getElem_cons_zero, List.getElem_cons_succ, List.setIfInBounds_toArray, List.set_cons_zero, List.set_cons_succ]
                    refine wpAnyH_take (i := 6) (v := ?_) rfl (by kernel_rfl) (by kernel_rfl) (by kernel_rfl) (fun _ _ _ h => h.elim) (Or.inl ⟨by rfl, ?_⟩) (by assumption) ?_
                    rotate_left
                    · intro wx hSw
                      try dsimp only at hSw
                      go_simp
                      try with_reducible rfl
                    try simp only [Act.put, List.getElem_toArray, List.getElem_cons_zero, List.getElem_cons_succ, List.setIfInBounds_toArray, List.set_cons_zero, List.set_cons_succ]
                    refine wpAnyH_done (by kernel_rfl) ?_ _
                    show Exit.inBlock 1 _ Exit.normal _ _
                    go_wp2_with fail
                    go_roundw
                    case rel => exact ⟨i4 + 1, by omega, by go_num, HJ8.out⟩
                    case measure => simp [intOf]; omega
                  exact AllReadyH.nil
                · have hl4 : ¬ ((i4 : Nat) : Int) < (Ms.length : Nat) := by omega
                  rw [List.take_of_length_le (by omega)] at hBo hFi hnn
                  have hrl := runs_room (W := W) (H := H) (s := (l, es)) (ms := Ms) (X := 211106232532992) hes47
                  have hrl2 : (runs W H (l, es) Ms).2.length * 32 ≤ 211106232532992 := Nat.le_trans (Nat.mul_le_mul_right 32 (Nat.le_succ _)) hrl
                  have HI1 := hide (is_any hBo hFi HT.out hrl2)
                  have hSw : ∀ wx, Below wd4.heap.size wd4 wx → Calls Try.prog 9 #[boV c r] wx fun e w' => e = .returned (.bool true) ∧ Below wx.heap.size wx w' := fun wx hx => by
                    refine is_any (N := X.heap.size + 2) (BoAt.swap (hBo.below hx) (hPa.below hx) ?_ ?_ (fun k e => ⟨?_, fun q => ?_⟩) (fun k e => ⟨?_, fun q => ?_⟩)) hFi HT.out hrl2
                    · exact Nat.le_trans hN2.2 (HoC.out _ (.inl (.inl rfl)))
                    · exact Nat.le_trans hN2.2 (HoC.out _ (.inl (.inr (.inl rfl))))
                    · exact Nat.le_trans hN2.2 (HoC.out _ (.inl (.inr (.inr (.inl e)))))
                    · exact (hSep k (.inl (.inr (.inr (.inl e))))).2 (.inr (.inr (.inl q)))
                    · exact Nat.le_trans hN2.2 (HoC.out _ (.inl (.inr (.inr (.inr e)))))
                    · exact (hSep k (.inl (.inr (.inr (.inr e))))).2 (.inr (.inr (.inr q)))
                  have HSw := hide hSw
                  have HBx := hide hBx
                  have HBl := hide hBl
                  obtain ⟨x0, x1, -, -⟩ := hBx.c
                  clear hBo hFi hPa hSep hSw hBl hrl hrl2 hnn
                  go_wp2_with fail
                  refine HI1.out.mono ?_
                  rintro e wE ⟨rfl, hbE⟩
                  obtain ⟨x2, x3, -, -⟩ := (HBx.out.kept hbE).c
                  have HE1 := hide hbE
                  clear x0 x1 HI1 hbE
                  go_wp2_with fail
                  refine (HSw.out _ HE1.out).mono ?_
                  rintro e wF ⟨rfl, hbF⟩
                  have HE2 := hide (bt HE1.out hbF)
                  clear hbF x2 x3
                  go_wp2_with fail
                  refine (HA.out _).mono ?_
                  rintro e wG ⟨rfl, hbG⟩
                  have hEnd := bt HBl.out (bt HE2.out hbG)
                  clear hbG
                  go_wp2_with fail
                  go_ret
                  exact ⟨rfl, hEnd⟩
end Go.Proofs.Ytobjadfchpgjeaa
