/-
  The reference's Sum, two of unlike signs, the first not less.
-/
import Derived.Test.YtnofillkfiiogaaBoxes
namespace Go.Proofs.Ytnofillkfiiogaa
open Go.RowKit
set_option linter.unusedVariables false
set_option maxHeartbeats 1000000 in
theorem sum_more (w : World) (sa sb : Bool) (a b : Option Addr) (n m ca cb : Nat) (la lb : List Nat) (ha : Digs w (.slice a n ca) la) (hb : Digs w (.slice b m cb) lb) (hne : (sa == sb) = false) (hlt : val lb ≤ val la) :
    Calls Try.prog 37 #[.agg #[.bool sa, .slice a n ca], .agg #[.bool sb, .slice b m cb]] w fun e w' => ∃ r k c l, e = .returned (.agg #[.bool sa, .slice r k c]) ∧ Digs w' (.slice r k c) l ∧ val l + val lb = val la ∧ l.length = la.length ∧ Below w.heap.size w w' := by
  have hdc : decide (val la < val lb) = false := by simp; omega
  have Hlt := hide hlt
  clear hlt
  go_enter Try.func37, Try.ntmps37
  go_wp2_with fail
  refine (less_any _ _ _ la lb (ha.kept (below_box3 _ _ _ _)) (hb.kept (below_box3 _ _ _ _))).mono ?_
  rw [hdc]
  rintro e w1 ⟨rfl, hw1⟩; rw [hw1]; clear hw1 w1
  go_wp2_with fail
  go_region_with (go_at_call 49; refine (minus_sl _ _ _ la lb (ha.kept (drewN_below (below_box3 _ _ _ _) 1)) (hb.kept (drewN_below (below_box3 _ _ _ _) 1)) (by have := Hlt.out; omega)).mono ?_; rintro e w1 ⟨av, nv, cv, l, rfl, hd, hfr, hval, hlen, hbl⟩; obtain ⟨⟨c0, c1⟩, ⟨c2, c3⟩, ⟨c4, c5⟩, ⟨f0, f1⟩, hz⟩ := facts3 hbl)
  all_goals
    go_wp2_with fail
    have hB := boxed3 hbl hd hfr (.bool sa) (.slice av nv cv)
    exact bodyPost_ret (v := .agg #[.bool sa, .slice av nv cv]) (by simp [results, Try.results37, go_sem, c4, c5]) rfl ⟨_, _, _, l, rfl, hB.1, hval, hlen, hB.2⟩
end Go.Proofs.Ytnofillkfiiogaa
