/-
  The document's Put as a whole.
-/
import Derived.Test.YtihjmgdihpeffaaRputB
import Derived.Test.YtihjmgdihpeffaaRputC
import Derived.Test.YtihjmgdihpeffaaRputD
namespace Go.Proofs.Ytihjmgdihpeffaa
open Go.RowKit
set_option linter.unusedVariables false
set_option linter.unusedSimpArgs false
theorem rput_is {w : World} {d : Nat} {kx wx : Value} {room ep : Int} {U : List Wv} {L : List En} (h : RC w d kx wx room ep U L) (q : K6) (e : Int) {o : Int} {v : Value} {P : List (Int × Int)} (hv : CeR w v P) (hl : P.length * 16 ≤ 140737488355328) (hvd : ∀ g, P ≠ [] → v.ownBlock = some g → g ≠ d) :
    Calls Try.prog 13 #[ptr d, kv q, .int .i64 e, wy o v] w fun en w' => (∃ z, en = .returned z) ∧ RpE w d kx wx room e (putL room (if e = ep then L else []) q (o, P)) w' := by
  by_cases he : e = ep
  · rw [if_pos he]
    subst he
    rcases plc_spec (ks L) q 0 with ⟨hpl, hn⟩ | ⟨j, hpl, hj, hjl⟩
    · by_cases hr : (L.length : Int) < room
      · exact rput_room h q e hv hl hvd hn hpl hr
      · exact rput_full h q e hv hl hvd hn hpl hr
    · obtain ⟨t0, ht⟩ := ks_at hj
      rw [Nat.zero_add] at hpl
      exact rput_found h q e hv hl hvd ht hpl
  · rw [if_neg he]
    exact rput_epoch h q e hv hl hvd he
end Go.Proofs.Ytihjmgdihpeffaa
