/-
  AssignMatches, walked.
-/
import Derived.Test.YtmkoleioipklpaaRmt
import Derived.Test.YtmkoleioipklpaaInt
import Derived.Test.YtmkoleioipklpaaAwa
namespace Go.Proofs.Ytmkoleioipklpaa
open Go.RowKit
set_option linter.unusedVariables false
set_option linter.unusedSimpArgs false
set_option maxRecDepth 100000 in
set_option maxHeartbeats 4000000 in
theorem matches_walk (us ps : Value) (U P : List (Int × Int)) (w : World) (hu : CeR w us U) (hp : CeR w ps P) : Calls Try.prog 3 #[us, ps] w fun e w' => e = .returned (.bool true) ∧ Below w.heap.size w w' := by
  obtain ⟨au, cu, rfl, hcu, hmu⟩ := hu.slice
  obtain ⟨ap, cp, rfl, hcp, hmp⟩ := hp.slice
  have l63 : ((U.length : Nat) : Int) ≤ 9223372036854775807 := by unfold maxLen at hmu; omega
  have HA := hide (fun w => awake_any w)
  by_cases hg : (20 : Int) < (U.length : Nat) ∧ ((U.length : Nat) : Int) ≤ 64
  · obtain ⟨g1, g2⟩ := hg
    clear hu hp
    go_enter Try.func3, Try.ntmps3
    go_wp2_with fail
    refine (HA.out _).mono ?_
    rintro e w1 ⟨rfl, hb1⟩
    have HB := hide hb1
    clear hb1
    go_wp2_with fail
    go_ret
    exact ⟨rfl, HB.out⟩
  have HH := hide (And.intro hu hp)
  have HM := hide (match_is _ _ U P w hu hp)
  clear hu hp
  by_cases g1 : (20 : Int) < (U.length : Nat)
  · have g2 : ¬ ((U.length : Nat) : Int) ≤ 64 := fun h => hg ⟨g1, h⟩
    clear hg
    go_enter Try.func3, Try.ntmps3
    go_wp2_with fail
    refine HM.out.mono ?_
    rintro e w1 ⟨v1, E1, M1, rfl, hb1, hi1, -, hm1⟩
    obtain ⟨a1, c1, rfl, -, -⟩ := hi1.slice
    have HB1 := hide hb1
    have HR := hide (refmatch_is _ _ U P w1 (HH.out.1.kept hb1) (HH.out.2.kept hb1))
    have HI1 := hide hi1
    have HM1 := hide hm1
    clear hb1 hi1 hm1 HM
    go_wp2_with fail
    refine HR.out.mono ?_
    rintro e w2 ⟨v2, E2, M2, rfl, hb2, hi2, -, hm2⟩
    obtain ⟨rfl, rfl⟩ := HM1.out.one hm2
    obtain ⟨a2, c2, rfl, -, -⟩ := hi2.slice
    have HB2 := hide (bt HB1.out hb2)
    have HS := hide (ints_is _ _ _ _ w2 (HI1.out.kept hb2) hi2)
    clear hb2 hi2 hm2 HR HI1 HM1 HB1
    go_wp2_with fail
    refine HS.out.mono ?_
    rintro e w3 ⟨c, rfl, hc, hb3⟩
    obtain rfl : c = true := hc.2 rfl
    have HB3 := hide (bt HB2.out hb3)
    clear hb3 hc HS HB2
    go_wp2_with fail
    refine (HA.out _).mono ?_
    rintro e w4 ⟨rfl, hb4⟩
    have HB4 := hide (bt HB3.out hb4)
    clear hb4
    go_wp2_with fail
    go_ret
    exact ⟨rfl, HB4.out⟩
  · clear hg
    go_enter Try.func3, Try.ntmps3
    go_wp2_with fail
    refine HM.out.mono ?_
    rintro e w1 ⟨v1, E1, M1, rfl, hb1, hi1, -, hm1⟩
    obtain ⟨a1, c1, rfl, -, -⟩ := hi1.slice
    have HB1 := hide hb1
    have HR := hide (refmatch_is _ _ U P w1 (HH.out.1.kept hb1) (HH.out.2.kept hb1))
    have HI1 := hide hi1
    have HM1 := hide hm1
    clear hb1 hi1 hm1 HM
    go_wp2_with fail
    refine HR.out.mono ?_
    rintro e w2 ⟨v2, E2, M2, rfl, hb2, hi2, -, hm2⟩
    obtain ⟨rfl, rfl⟩ := HM1.out.one hm2
    obtain ⟨a2, c2, rfl, -, -⟩ := hi2.slice
    have HB2 := hide (bt HB1.out hb2)
    have HS := hide (ints_is _ _ _ _ w2 (HI1.out.kept hb2) hi2)
    clear hb2 hi2 hm2 HR HI1 HM1 HB1
    go_wp2_with fail
    refine HS.out.mono ?_
    rintro e w3 ⟨c, rfl, hc, hb3⟩
    obtain rfl : c = true := hc.2 rfl
    have HB3 := hide (bt HB2.out hb3)
    clear hb3 hc HS HB2
    go_wp2_with fail
    refine (HA.out _).mono ?_
    rintro e w4 ⟨rfl, hb4⟩
    have HB4 := hide (bt HB3.out hb4)
    clear hb4
    go_wp2_with fail
    go_ret
    exact ⟨rfl, HB4.out⟩
end Go.Proofs.Ytmkoleioipklpaa
