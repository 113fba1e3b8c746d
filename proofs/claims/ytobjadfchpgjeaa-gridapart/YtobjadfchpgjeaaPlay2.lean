/-
  phalanxlaw04.Play: a building that is placed, and any edit.
-/
import Derived.Test.YtobjadfchpgjeaaPlay
set_option linter.unusedSimpArgs false
namespace Go.Proofs.Ytobjadfchpgjeaa
open Go.RowKit
set_option linter.unusedVariables false
theorem play_place (N : Nat) (w : World) (p r : Nat) (W H : Int) (tl : List Nat) (l : List Bd) (es : List Rc) (bm n : Nat) (tv bv ev rt rb re : Value) (t : Bd) (h : BoAt N w p r W H tl l es bm n tv bv ev rt rb re) (hF : Fine W H l) (hN : N ≤ w.heap.size) (hn : n + 64 ≤ maxLen) (hes : (es.length + 1) * 32 ≤ 211106232532992) :
    Calls Try.prog 24 #[boV p r, edV false t] w fun e w' => e = .returned (.bool true) ∧ Played N w p r W H tl es n w' := by
  have hcr := code_ref W H l t
  have HM : ∀ X wx, Below w.heap.size w X → Below X.heap.size X wx → Calls Try.prog 28 #[ptr p, t.v] wx fun e w' => e = .returned (.int .i64 (refcode W H l t)) ∧ Below wx.heap.size wx w' := fun X wx b0 b1 => by
    have HX := (h.below b0).below b1
    rw [← hcr]
    exact may_world p bm n W H tv bv ev (whoF l) l t wx HX.d HX.f HX.b hF.sorted hF.len
  have HN : ∀ X wx, Below w.heap.size w X → Below X.heap.size X wx → Calls Try.prog 49 #[ptr r, t.v] wx fun e w' => e = .returned (.int .i64 (refcode W H l t)) ∧ Below wx.heap.size wx w' := fun X wx b0 b1 => by
    have HX := (h.below b0).below b1
    exact refmayw_any r W H rt rb re l t wx HX.d' HX.b' hF.sorted hF.len
  refine play_place_of w p r t (refcode W H l t) _ HM HN (fun X B0 z0 P0 => ?_)
  have HX := h.below B0
  have l1 := h.d.lt
  have l2 := h.f.lt
  have l3 := h.d'.lt
  by_cases hc : refcode W H l t = 0
  · have hc' : code W H (whoF l) l t = 0 := hcr.trans hc
    rw [hc]
    refine (place_yes p bm n W H tv bv ev (whoF l) l es t X HX.d HX.f HX.b HX.e hF.sorted hF.len hn hes hc').mono ?_
    rintro e w1 ⟨rfl, bv', ev', q1, q2, q3, q4, q5, q6, q7⟩
    rw [who_ins (refcode_zero hc).2.2.2] at q3
    have low : ∀ q, (q = p ∨ q = bm ∨ bv.ownBlock = some q ∨ ev.ownBlock = some q) → q < w.heap.size := fun q hq => by
      rcases hq with e | e | e | e
      · omega
      · omega
      · exact (h.b.lt q e).2
      · exact (h.e.lt q e).2
    have P1 := P0.turn q5 (fun hq => by have := low _ hq; omega) (fun hq => by have := low _ hq; omega)
    refine ⟨rfl, P1, ?_⟩
    have doc := HX.doc q5
    have zx := q5.size
    refine (refplacew_yes r W H rt rb re l es t w1 doc.1 doc.2.2.1 doc.2.2.2 hF.sorted hF.len hes hc).mono ?_
    rintro e w3 ⟨rfl, rb', re', u1, u2, u3, u4, u5, u6⟩
    have hXN : N ≤ X.heap.size := by omega
    have two := HX.two hXN q1 q2 q3 q4 q5 q6 q7 u1 u2 u3 u4 u5 u6
    have low' : ∀ q, (q = r ∨ rb.ownBlock = some q ∨ re.ownBlock = some q) → q < w.heap.size := fun q hq => by
      rcases hq with e | e | e
      · omega
      · exact (h.b'.lt q e).2
      · exact (h.e'.lt q e).2
    refine ⟨rfl, P1.turn u4 (fun hq => by have := low' _ hq; omega) (fun hq => by have := low' _ hq; omega), ?_⟩
    exact ⟨ins l t, es ++ [t.foot], bm, n + 64, tv, bv', ev', rt, rb', re', two.1, hF.ins hc, by simp, by omega, (B0.mono hN).trans two.2⟩
  · have hc' : code W H (whoF l) l t ≠ 0 := fun e => hc (hcr.symm.trans e)
    have HP := place_no p bm n W H tv bv ev (whoF l) l t X HX.d HX.f HX.b hF.sorted hF.len hc'
    rw [hcr] at HP
    refine HP.mono ?_
    rintro e w1 ⟨rfl, hb1⟩
    refine ⟨rfl, P0.kept hb1, ?_⟩
    have H1 := HX.below hb1
    refine (refplacew_no r W H rt rb re l t w1 H1.d' H1.b' hF.sorted hF.len hc).mono ?_
    rintro e w3 ⟨rfl, hb3⟩
    refine ⟨rfl, (P0.kept hb1).kept hb3, ?_⟩
    exact ⟨l, es, bm, n, tv, bv, ev, rt, rb, re, H1.below hb3, hF, by omega, by omega, (bt B0 (bt hb1 hb3)).mono hN⟩
theorem play_any (N : Nat) (w : World) (p r : Nat) (W H : Int) (tl : List Nat) (l : List Bd) (es : List Rc) (bm n : Nat) (tv bv ev rt rb re : Value) (z : Bool) (t : Bd) (h : BoAt N w p r W H tl l es bm n tv bv ev rt rb re) (hF : Fine W H l) (hN : N ≤ w.heap.size) (hn : n + 64 ≤ maxLen) (hes : (es.length + 1) * 32 ≤ 211106232532992) :
    Calls Try.prog 24 #[boV p r, edV z t] w fun e w' => e = .returned (.bool true) ∧ Played N w p r W H tl es n w' := by
  cases z
  · exact play_place N w p r W H tl l es bm n tv bv ev rt rb re t h hF hN hn hes
  · exact play_raze N w p r W H tl l es bm n tv bv ev rt rb re t h hF hN hes
end Go.Proofs.Ytobjadfchpgjeaa
