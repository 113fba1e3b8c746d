/-
  At and Epoch of a World.
-/
import Derived.Test.YtpikfplmghofbaaDoorPlace
namespace Go.Proofs.YtpikfplmghofbaaDoor
open Go.RowKit
set_option linter.unusedVariables false
theorem Rcs.form {w : World} {v : Value} {l : List Rc} (h : Rcs w v l) : ∃ a cap, v = .slice a l.length cap ∧ l.length ≤ cap ∧ cap ≤ maxLen := by
  rcases h.2 with ⟨e, h0⟩ | ⟨g, cap, cur, e, hb, hg, hn, hm, _⟩
  · exact ⟨none, 0, by rw [h0]; exact e, by omega, by decide⟩
  · exact ⟨_, cap, e, hn, hm⟩
end Go.Proofs.YtpikfplmghofbaaDoor
