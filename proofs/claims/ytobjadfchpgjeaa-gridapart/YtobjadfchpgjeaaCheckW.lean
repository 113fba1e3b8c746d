/-
  The program's Check.
-/
import Derived.Test.YtobjadfchpgjeaaNew
set_option linter.unusedSimpArgs false
namespace Go.Proofs.Ytobjadfchpgjeaa
open Go.RowKit
set_option linter.unusedVariables false
/-- What New and Check tell of a map. -/
def nwc (W H : Int) (tl : List Nat) (L : List Bd) : Int := if (mt W H tl && okL W H [] L) = true then 0 else 1
theorem new_code (W H : Int) (tv bv : Value) (tl : List Nat) (L : List Bd) (w : World) (hv : TlR w tv tl) (hb : ∀ x ∈ tl, x < 256) (hl : BdR w bv L) :
    Calls Try.prog 26 #[mp W H tv bv] w fun e w' => ∃ o, e = .returned (.tuple #[.pointer o, .int .i64 (nwc W H tl L)]) ∧ Below w.heap.size w w' := by
  cases hm : mt W H tl
  · obtain ⟨a2, cap2, rfl, -⟩ := hl
    refine (new_bad W H tv a2 L.length cap2 tl w hv hb hm).mono ?_
    rintro e w' ⟨rfl, hB⟩
    exact ⟨none, by simp [nwc, hm], hB⟩
  · refine (new_good W H tv bv tl L w hv hb hl hm).mono ?_
    rintro e w' (⟨hk, p, rfl, hM⟩ | ⟨hk, rfl, hB⟩)
    · obtain ⟨bm, tv', bv', -, -, -, -, hB, -⟩ := hM
      exact ⟨some ⟨p, 0, none⟩, by simp [nwc, hm, hk], hB⟩
    · exact ⟨none, by simp [nwc, hm, hk], hB⟩
set_option maxHeartbeats 1000000 in
theorem check_any (W H : Int) (tv bv : Value) (tl : List Nat) (L : List Bd) (w : World) (hv : TlR w tv tl) (hb : ∀ x ∈ tl, x < 256) (hl : BdR w bv L) :
    Calls Try.prog 33 #[mp W H tv bv] w fun e w' => e = .returned (.int .i64 (nwc W H tl L)) ∧ Below w.heap.size w w' := by
  have B0 : Below w.heap.size w (w.alloc (.cells #[.int .i64 W, .int .i64 H, tv, bv] 25)) := box1 _ _
  have HN := hide (new_code W H tv bv tl L _ (hv.kept B0) hb (hl.kept B0))
  obtain ⟨c, hc⟩ : ∃ c, nwc W H tl L = c := ⟨_, rfl⟩
  rw [hc] at HN ⊢
  obtain ⟨a1, cap1, rfl, -⟩ := hv
  obtain ⟨a2, cap2, rfl, -⟩ := hl
  clear hc
  go_enter Try.func33, Try.ntmps33
  go_wp2_with (go_at_call 26; refine HN.out.mono ?_; rintro e w1 ⟨o, rfl, hb1⟩)
  go_ret
  exact ⟨rfl, bt B0 hb1⟩
end Go.Proofs.Ytobjadfchpgjeaa
