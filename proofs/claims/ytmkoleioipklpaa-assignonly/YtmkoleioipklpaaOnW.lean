/-
  AssignOnly, walked.
-/
import Derived.Test.YtmkoleioipklpaaStW
import Derived.Test.YtmkoleioipklpaaInt
namespace Go.Proofs.Ytmkoleioipklpaa
open Go.RowKit
set_option linter.unusedVariables false
set_option linter.unusedSimpArgs false
theorem MtR.none {U P : List (Int × Int)} {M : List Int} {E : Int} (h : MtR U P M E) (h0 : rfs U P ≠ 0) : E ≠ 0 := by
  rcases h with ⟨h1, -, rfl⟩ | ⟨h1, -⟩
  · exact h1
  · exact absurd h1 h0
set_option maxRecDepth 100000 in
set_option maxHeartbeats 4000000 in
theorem only_walk (us ps m : Value) (U P : List (Int × Int)) (M : List Int) (w : World) (hu : CeR w us U) (hp : CeR w ps P) (hm : Ir w m M) : Calls Try.prog 6 #[us, ps, m] w fun e w' => e = .returned (.bool true) ∧ Below w.heap.size w w' := by
  obtain ⟨au, cu, rfl, hcu, hmu⟩ := hu.slice
  obtain ⟨ap, cp, rfl, hcp, hmp⟩ := hp.slice
  obtain ⟨am, cm, rfl, hcm, hmm⟩ := hm.slice
  have HA := hide (fun w => awake_any w)
  have HH := hide (And.intro hu (And.intro hp hm))
  have HM := hide (match_is _ _ U P w hu hp)
  clear hu hp hm
  go_enter Try.func6, Try.ntmps6
  go_wp2_with fail
  refine HM.out.mono ?_
  rintro e w1 ⟨v1, E, N, rfl, hb1, hi1, -, hm1⟩
  obtain ⟨a1, c1, rfl, -, -⟩ := hi1.slice
  have HB1 := hide hb1
  have HI1 := hide hi1
  clear hb1 hi1 HM
  by_cases h0 : rfs U P = 0
  · obtain ⟨rfl, ks, rfl, hon, hst⟩ := hm1.good h0
    have HON := hide (And.intro h0 (And.intro hon hst))
    clear hm1 h0 hon hst
    go_wp2_with fail
    refine (stable_is _ _ _ U P M w1 (HH.out.1.kept HB1.out) (HH.out.2.1.kept HB1.out) (HH.out.2.2.kept HB1.out)).mono ?_
    rintro e w2 ⟨b, rfl, hb2, hs⟩
    have HB2 := hide (bt HB1.out hb2)
    have HI2 := hide (HI1.out.kept hb2)
    have HS := hide hs
    clear hb2 hs HB1 HI1
    cases b
    · go_wp2_with fail
      refine (HA.out _).mono ?_
      rintro e w3 ⟨rfl, hb3⟩
      have HB3 := hide (bt HB2.out hb3)
      clear hb3
      go_wp2_with fail
      go_ret
      exact ⟨rfl, HB3.out⟩
    · go_wp2_with fail
      refine (ints_is _ _ _ _ w2 HI2.out (HH.out.2.2.kept HB2.out)).mono ?_
      rintro e w3 ⟨c, rfl, hc, hb3⟩
      obtain rfl : c = true := hc.2 (by
        obtain ⟨ls, -, e, h1, h2⟩ := HS.out.1 rfl
        rw [e, stable_one (ltD_ord _) HON.out.2.1 h1 HON.out.2.2 h2])
      have HB3 := hide (bt HB2.out hb3)
      clear hb3 hc
      go_wp2_with fail
      refine (HA.out _).mono ?_
      rintro e w4 ⟨rfl, hb4⟩
      have HB4 := hide (bt HB3.out hb4)
      clear hb4
      go_wp2_with fail
      go_ret
      exact ⟨rfl, HB4.out⟩
  · have hE := hm1.none h0
    have hne : (E != 0) = true := by simpa using hE
    clear hm1
    go_wp2_with fail
    refine (HA.out _).mono ?_
    rintro e w3 ⟨rfl, hb3⟩
    have HB3 := hide (bt HB1.out hb3)
    clear hb3
    go_wp2_with fail
    go_ret
    exact ⟨rfl, HB3.out⟩
end Go.Proofs.Ytmkoleioipklpaa
