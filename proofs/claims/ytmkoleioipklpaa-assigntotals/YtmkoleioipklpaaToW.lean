/-
  AssignTotals, walked.
-/
import Derived.Test.YtmkoleioipklpaaRst
import Derived.Test.YtmkoleioipklpaaAwa
namespace Go.Proofs.Ytmkoleioipklpaa
open Go.RowKit
set_option linter.unusedVariables false
set_option linter.unusedSimpArgs false
theorem in_none (w : World) : In (w.alloc (.cells #[] 3)) (.slice (some ⟨w.heap.size, 0, none⟩) 0 0) [] := World.ownsRow_made w _ 0 (Nat.zero_le _) (by unfold maxLen; omega) (by simp)
theorem In.ir {w : World} {v : Value} {L : List Int} (h : In w v L) : Ir w v L := Rw.rd iCs_len h h.cap
set_option maxRecDepth 100000 in
set_option maxHeartbeats 4000000 in
theorem totals_walk (us ps m : Value) (U P : List (Int × Int)) (M : List Int) (w : World) (hu : CeR w us U) (hp : CeR w ps P) (hm : Ir w m M) (hl : M.length * 8 ≤ 140737488355328) : Calls Try.prog 4 #[us, ps, m] w fun e w' => e = .returned (.bool true) ∧ Below w.heap.size w w' := by
  obtain ⟨au, cu, rfl, hcu, hmu⟩ := hu.slice
  obtain ⟨ap, cp, rfl, hcp, hmp⟩ := hp.slice
  obtain ⟨am, cm, rfl, hcm, hmm⟩ := hm.slice
  have HA := hide (fun w => awake_any w)
  have HH := hide (And.intro hu (And.intro hp hm))
  obtain ⟨X, hX⟩ : ∃ X, w.alloc (.cells #[] 3) = X := ⟨_, rfl⟩
  have BX : Below w.heap.size w X := by rw [← hX]; exact box1 _ _
  have KX : In X (.slice (some ⟨w.heap.size, 0, none⟩) 0 0) [] := by rw [← hX]; exact in_none w
  obtain ⟨v', V, hr, hk, -, ht⟩ := In.more KX (hm.kept BX) (by simp; omega) 24
  rw [List.nil_append] at hk
  have BV : Below w.heap.size w V := BX.trans (ht.below (B := w.heap.size) (fun g e => by cases e; exact Nat.le_refl _) BX.size)
  have HR := hide hr
  have HX := hide hX
  have HB := hide BV
  have HT := hide (total_is _ _ _ U P M V (hu.kept BV) (hp.kept BV) hk.ir)
  clear hu hp hm hX BX KX hr hk ht BV
  go_enter Try.func4, Try.ntmps4
  go_wp2_with (first | rw [HX.out] | (at_builtin; refine wpList_app_run rfl _ _ 24 rfl _ _ rfl rfl HR.out ?_))
  refine HT.out.mono ?_
  rintro e w1 ⟨T1, E1, rfl, hb1, ht1⟩
  have HB1 := hide (bt HB.out hb1)
  have HT1 := hide ht1
  clear hb1 ht1 HT HB HR HX
  go_wp2_with fail
  refine (reftotal_is _ _ _ U P M w1 (HH.out.1.kept HB1.out) (HH.out.2.1.kept HB1.out) (HH.out.2.2.kept HB1.out)).mono ?_
  rintro e w2 ⟨T2, E2, rfl, hb2, ht2⟩
  obtain ⟨rfl, rfl⟩ := HT1.out.one ht2
  have HB2 := hide (bt HB1.out hb2)
  clear hb2 ht2 HT1 HB1
  go_wp2_with fail
  refine (stable_is _ _ _ U P M w2 (HH.out.1.kept HB2.out) (HH.out.2.1.kept HB2.out) (HH.out.2.2.kept HB2.out)).mono ?_
  rintro e w3 ⟨b1, rfl, hb3, hs1⟩
  have HB3 := hide (bt HB2.out hb3)
  have HS1 := hide hs1
  clear hb3 hs1 HB2
  go_wp2_with fail
  refine (refstable_is _ _ _ U P M w3 (HH.out.1.kept HB3.out) (HH.out.2.1.kept HB3.out) (HH.out.2.2.kept HB3.out)).mono ?_
  rintro e w4 ⟨b2, rfl, hb4, hs2⟩
  obtain rfl := HS1.out.one hs2
  have HB4 := hide (bt HB3.out hb4)
  clear hb4 hs2 HB3 HS1
  go_wp2_with fail
  refine (HA.out _).mono ?_
  rintro e w5 ⟨rfl, hb5⟩
  have HB5 := hide (bt HB4.out hb5)
  clear hb5
  go_wp2_with fail
  go_ret
  exact ⟨rfl, HB5.out⟩
end Go.Proofs.Ytmkoleioipklpaa
