/-
  The reference's Sum, two of one sign.
-/
import Derived.Test.YtnofillkfiiogaaBoxes
namespace Go.Proofs.Ytnofillkfiiogaa
open Go.RowKit
set_option linter.unusedVariables false
set_option maxHeartbeats 1000000 in
theorem sum_same (w : World) (s : Bool) (a b : Option Addr) (n m ca cb : Nat) (la lb : List Nat) (ha : Digs w (.slice a n ca) la) (hb : Digs w (.slice b m cb) lb) (h29 : la.length ≤ 29000) (h29b : lb.length ≤ 29000) :
    Calls Try.prog 37 #[.agg #[.bool s, .slice a n ca], .agg #[.bool s, .slice b m cb]] w fun e w' => ∃ r k c l, e = .returned (.agg #[.bool s, .slice r k c]) ∧ Digs w' (.slice r k c) l ∧ val l = val la + val lb ∧ l.length ≤ max la.length lb.length + 1 ∧ Below w.heap.size w w' := by
  go_enter Try.func37, Try.ntmps37
  go_wp2_with fail
  go_region_with (go_at_call 52; refine (plus_sl _ _ _ la lb (ha.kept (drewN_below (below_box3 _ _ _ _) 1)) (hb.kept (drewN_below (below_box3 _ _ _ _) 1)) h29 h29b).mono ?_; rintro e w1 ⟨av, nv, cv, l, rfl, hd, hfr, hval, hlen, hbl⟩; obtain ⟨⟨c0, c1⟩, ⟨c2, c3⟩, ⟨c4, c5⟩, ⟨f0, f1⟩, hz⟩ := facts3 hbl)
  all_goals
    go_wp2_with fail
    have hB := boxed3 hbl hd hfr (.bool s) (.slice av nv cv)
    exact bodyPost_ret (v := .agg #[.bool s, .slice av nv cv]) (by simp [results, Try.results37, go_sem, c4, c5]) rfl ⟨_, _, _, l, rfl, hB.1, hval, hlen, hB.2⟩
end Go.Proofs.Ytnofillkfiiogaa
