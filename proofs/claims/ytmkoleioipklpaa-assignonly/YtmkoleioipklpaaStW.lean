/-
  AssignStable, walked.
-/
import Derived.Test.YtmkoleioipklpaaRst
import Derived.Test.YtmkoleioipklpaaAwa
namespace Go.Proofs.Ytmkoleioipklpaa
open Go.RowKit
set_option linter.unusedVariables false
set_option linter.unusedSimpArgs false
/-- What a match says to Total and Stable. -/
theorem MtR.good {U P : List (Int × Int)} {M : List Int} {E : Int} (h : MtR U P M E) (h0 : rfs U P = 0) : E = 0 ∧ ∃ ks, M = cast ks ∧ Once U.length ks ∧ Stb (ltD (dst U P)) ks := by
  rcases h with ⟨h1, -⟩ | ⟨-, rfl, G, h1, h2, rfl⟩
  · exact absurd h0 h1
  · obtain ⟨ks, e, hm⟩ := h1.nats h2
    exact ⟨rfl, ks, e, h1.match_once hm, h1.stable hm⟩
set_option maxRecDepth 100000 in
set_option maxHeartbeats 4000000 in
theorem stables_walk (us ps : Value) (U P : List (Int × Int)) (w : World) (hu : CeR w us U) (hp : CeR w ps P) : Calls Try.prog 5 #[us, ps] w fun e w' => e = .returned (.bool true) ∧ Below w.heap.size w w' := by
  obtain ⟨au, cu, rfl, hcu, hmu⟩ := hu.slice
  obtain ⟨ap, cp, rfl, hcp, hmp⟩ := hp.slice
  have HA := hide (fun w => awake_any w)
  have HH := hide (And.intro hu hp)
  have HM := hide (match_is _ _ U P w hu hp)
  clear hu hp
  go_enter Try.func5, Try.ntmps5
  go_wp2_with fail
  refine HM.out.mono ?_
  rintro e w1 ⟨v1, E, M, rfl, hb1, hi1, -, hm1⟩
  obtain ⟨a1, c1, rfl, -, -⟩ := hi1.slice
  have HB1 := hide hb1
  have HI1 := hide hi1
  clear hb1 hi1 HM
  by_cases h0 : rfs U P = 0
  · obtain ⟨rfl, ks, rfl, hon, hst⟩ := hm1.good h0
    have HON := hide (And.intro h0 (And.intro hon hst))
    clear hm1 h0 hon hst
    go_wp2_with fail
    refine (reftotal_is _ _ _ U P (cast ks) w1 (HH.out.1.kept HB1.out) (HH.out.2.kept HB1.out) HI1.out).mono ?_
    rintro e w2 ⟨T, E, rfl, hb2, ht⟩
    obtain rfl : E = 0 := by
      rcases ht with ⟨ls, -, -, -, -, h⟩ | ⟨h, -⟩
      · exact h
      · exact absurd ⟨HON.out.1, HON.out.2.1.po⟩ h
    have HB2 := hide (bt HB1.out hb2)
    have HI2 := hide (HI1.out.kept hb2)
    clear hb2 ht HB1 HI1
    go_wp2_with fail
    refine (refstable_is _ _ _ U P (cast ks) w2 (HH.out.1.kept HB2.out) (HH.out.2.kept HB2.out) HI2.out).mono ?_
    rintro e w3 ⟨b1, rfl, hb3, hs1⟩
    obtain rfl : b1 = true := hs1.2 ⟨ks, HON.out.1, rfl, HON.out.2.1, HON.out.2.2⟩
    have HB3 := hide (bt HB2.out hb3)
    have HI3 := hide (HI2.out.kept hb3)
    clear hb3 hs1 HB2 HI2
    go_wp2_with fail
    refine (stable_is _ _ _ U P (cast ks) w3 (HH.out.1.kept HB3.out) (HH.out.2.kept HB3.out) HI3.out).mono ?_
    rintro e w4 ⟨b2, rfl, hb4, hs2⟩
    obtain rfl : b2 = true := hs2.2 ⟨ks, HON.out.1, rfl, HON.out.2.1, HON.out.2.2⟩
    have HB4 := hide (bt HB3.out hb4)
    clear hb4 hs2 HB3 HI3
    go_wp2_with fail
    refine (HA.out _).mono ?_
    rintro e w5 ⟨rfl, hb5⟩
    have HB5 := hide (bt HB4.out hb5)
    clear hb5
    go_wp2_with fail
    go_ret
    exact ⟨rfl, HB5.out⟩
  · obtain ⟨rfl, rfl⟩ : M = [] ∧ E = rfs U P := by
      rcases hm1 with ⟨-, h1, h2⟩ | ⟨h1, -⟩
      · exact ⟨h1, h2⟩
      · exact absurd h1 h0
    have HR := hide (refuses_any _ _ U P w1 (HH.out.1.kept HB1.out) (HH.out.2.kept HB1.out))
    obtain ⟨E, hE⟩ : ∃ E, rfs U P = E := ⟨_, rfl⟩
    rw [hE] at HR h0 ⊢
    have hne : (E != 0) = true := by simpa using h0
    have heq : (E == E) = true := by simp
    clear hm1 hE
    go_wp2_with fail
    refine HR.out.mono ?_
    rintro e w2 ⟨rfl, hb2⟩
    have HB2 := hide (bt HB1.out hb2)
    clear hb2 HR
    go_wp2_with fail
    refine (HA.out _).mono ?_
    rintro e w3 ⟨rfl, hb3⟩
    have HB3 := hide (bt HB2.out hb3)
    clear hb3
    go_wp2_with fail
    go_ret
    exact ⟨rfl, HB3.out⟩
end Go.Proofs.Ytmkoleioipklpaa
