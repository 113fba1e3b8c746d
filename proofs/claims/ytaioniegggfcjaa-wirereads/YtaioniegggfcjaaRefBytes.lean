/-
  The document's answer: ReadBytes.
-/
import Derived.Test.YtaioniegggfcjaaRefFix
import Derived.Test.YtaioniegggfcjaaWrittenC
namespace Go.Proofs.Ytaioniegggfcjaa
open Go.RowKit
set_option linter.unusedVariables false
/-- What Bytes' answer is, out of what Number's is. -/
theorem by_parts (l : List Nat) (k e : Nat) (most : Int) (hs : Small l) (hk : k ≤ l.length) (hm : most ≤ 9223372036854775807) :
    (noE l k e most ≠ 0 ∧ byL l k e most = [] ∧ byK l k e most = noK l k e most ∧ byE l k e most = noE l k e most) ∨
    (noE l k e most = 0 ∧ noK l k e most ≤ l.length ∧ (l.length - noK l k e most < noN l k e most → byL l k e most = [] ∧ byK l k e most = k ∧ byE l k e most = 5) ∧
      (¬ l.length - noK l k e most < noN l k e most → byL l k e most = (l.drop (noK l k e most)).take (noN l k e most) ∧ byK l k e most = noK l k e most + noN l k e most ∧ byE l k e most = 0)) := by
  have hf := cnt_facts (small_rest hs k e) most hm
  by_cases hc : (cnt (restOf l k e) most).2.2 = 0
  · right
    have h0 : e = 0 := by
      rcases Nat.eq_zero_or_pos e with h | h
      · exact h
      · have hr : restOf l k e = [] := by simp [restOf]; omega
        rw [hr, cnt_none most rfl] at hc
        cases hc
    subst h0
    have hr : restOf l k 0 = l.drop k := by simp [restOf]
    have hK : (cnt (restOf l k 0) most).2.1 ≤ (l.drop k).length := by
      rcases hf with ⟨_, h, _⟩ | ⟨h, _⟩
      · rw [hr] at h ⊢; exact h
      · exact absurd hc h
    have hlen : (l.drop k).length = l.length - k := List.length_drop
    have hw : byW l k 0 most = if l.length - (k + (cnt (restOf l k 0) most).2.1) < (cnt (restOf l k 0) most).1 then 5 else 0 := by
      unfold byW
      rw [hc]
      have e1 : (restOf l k 0).length - (cnt (restOf l k 0) most).2.1 = l.length - (k + (cnt (restOf l k 0) most).2.1) := by rw [hr, hlen] at *; omega
      rw [e1]
      simp
    have hN : noN l k 0 most = (cnt (restOf l k 0) most).1 := rfl
    have hKK : noK l k 0 most = k + (cnt (restOf l k 0) most).2.1 := rfl
    have hE : noE l k 0 most = 0 := by unfold noE; rw [if_pos hc]
    rw [← hN, ← hKK] at hw
    have hdd : (restOf l k 0).drop (cnt (restOf l k 0) most).2.1 = l.drop (noK l k 0 most) := by rw [hKK, hr, List.drop_drop]
    refine ⟨hE, by rw [hKK]; omega, fun h => ?_, fun h => ?_⟩
    · rw [if_pos h] at hw
      unfold byL byK byE
      rw [hw]
      exact ⟨if_neg (by omega), if_neg (by omega), by rw [if_neg (by omega)]; rfl⟩
    · rw [if_neg h] at hw
      unfold byL byK byE
      rw [hw, hdd, ← hN]
      refine ⟨if_pos rfl, ?_, if_pos rfl⟩
      rw [if_pos rfl, hKK]; omega
  · left
    have h2 : (cnt (restOf l k e) most).2.1 = 0 := by
      rcases hf with ⟨h, _⟩ | ⟨_, h, _⟩
      · exact absurd h hc
      · exact h
    unfold byE byK byL byW noE noK first
    rw [h2]
    have hne : ¬ ((cnt (restOf l k e) most).2.2 = 0 ∧ (restOf l k e).length - 0 < (cnt (restOf l k e) most).1) := fun h => hc h.1
    simp only [if_neg hne, if_neg hc]
    refine ⟨?_, trivial, rfl, trivial⟩
    split
    · exact hc
    · assumption
set_option maxHeartbeats 1000000 in
theorem refby_any (w : World) (g : Nat) (l : List Nat) (k e : Nat) (most : Int) (h : Rd w g l k e) (hm : -9223372036854775808 ≤ most ∧ most ≤ 9223372036854775807) :
    Calls Try.prog 36 #[.pointer (some ⟨g, 0, none⟩), .int .i64 most] w fun x w' => ∃ v, x = .returned v ∧ Bys w' v (byL l k e most) ∧ Rd w' g l (byK l k e most) (byE l k e most) ∧ w.grownBy w' (some g) := by
  have hB := h.bytes
  have H := hide (refno_any w g l k e most h hm)
  obtain ⟨c1, c2, c3, c4⟩ := h.cells
  have HkL := hide hB.2.2
  rcases by_parts l k e most hB.1 hB.2.2 hm.2 with ⟨hb, hN, hK, hE⟩ | ⟨hb, hle, hbig, hfit⟩
  · have Hs := hide (And.intro hN (And.intro hK hE))
    have hz : ((noE l k e most : Int) != 0) = true := by simp; omega
    generalize ((noN l k e most : Nat) : Int) = n at *
    clear h hN hK hE hb hB
    go_enter Try.func36, Try.ntmps36
    go_wp2_with fail
    refine H.out.mono ?_; rintro x w1 ⟨rfl, hr1, hg1⟩
    have ce := hr1.err
    have Hr1 := hide hr1
    have Hg1 := hide hg1
    clear hr1 hg1
    go_wp2_with fail
    go_ret
    refine ⟨_, rfl, by rw [Hs.out.1]; exact Bys.nil _, ?_, Hg1.out⟩
    rw [Hs.out.2.1, Hs.out.2.2]; exact Hr1.out
  · rw [hb] at H
    obtain ⟨K, hK⟩ : ∃ K, K = noK l k e most := ⟨_, rfl⟩
    obtain ⟨N, hN⟩ : ∃ N, N = noN l k e most := ⟨_, rfl⟩
    rw [← hK] at H hle
    rw [← hK, ← hN] at hbig hfit
    rw [← hN] at H
    have hz3 : (0 : Int) ≤ K := by omega
    have hz4 : (K : Int) ≤ l.length := by omega
    have hz5 : (l.length : Int) ≤ 140737488355328 := by omega
    have hz6 : (0 : Int) ≤ N := by omega
    by_cases hbg : l.length - K < N
    · have Hs := hide (hbig hbg)
      have hd : decide ((l.length : Int) - K < N) = true := by simp; omega
      have hd2 : (l.length : Int) - K < N := by omega
      clear h hbig hfit hB hb hK hN hle hbg
      go_enter Try.func36, Try.ntmps36
      go_wp2_with fail
      refine H.out.mono ?_; rintro x w1 ⟨rfl, hr1, hg1⟩
      have ce : w1.cell? ⟨g, 2, none⟩ = some (.int .i64 0) := hr1.err
      have cp := hr1.cells.1
      obtain ⟨⟨-, -⟩, -, -, -, -, -, sv, cs, hbs⟩ := id hr1
      obtain ⟨a, cap, rfl, hcc, _⟩ := hbs.sl
      have Hr1 := hide hr1
      have Hg1 := hide hg1
      clear hr1 hg1 hbs
      go_wp2_with (first | go_quiet (fail) | fail)
      have Hf := hide (wrong_any (w1.drewN nq) g l _ 0 5 k (Hr1.out.same (same_drewN _ _)) HkL.out)
      refine Hf.out.mono ?_; rintro x w3 ⟨rfl, hr3, hg3⟩
      have Hr3 := hide hr3
      have Hg3 := hide (grown_trans (grown_trans Hg1.out ((same_drewN w1 nq).grown (some g))) hg3)
      clear hr3 hg3
      go_wp2_with fail
      go_ret
      refine ⟨_, rfl, by rw [Hs.out.1]; exact Bys.nil _, ?_, Hg3.out⟩
      rw [Hs.out.2.1, Hs.out.2.2]; exact Hr3.out
    · have Hs := hide (hfit hbg)
      have hd : decide ((l.length : Int) - K < N) = false := by simp; omega
      have hd2 : ¬ (l.length : Int) - K < N := by omega
      have hz7 : (K : Int) + N ≤ l.length := by omega
      have Hle := hide hle
      have HNl : Hid (N ≤ (l.drop K).length) := by show _ ≤ _; rw [List.length_drop]; omega
      have Hlen : Hid (([] : List Nat).length + ((l.drop K).take N).length ≤ 140737488355328) := by show _ ≤ _; simp only [List.length_nil, List.length_take, List.length_drop]; omega
      clear h hbig hfit hB hb hK hN hle hbg
      go_enter Try.func36, Try.ntmps36
      go_wp2_with fail
      refine H.out.mono ?_; rintro x w1 ⟨rfl, hr1, hg1⟩
      have ce : w1.cell? ⟨g, 2, none⟩ = some (.int .i64 0) := hr1.err
      have cp := hr1.cells.1
      obtain ⟨⟨hgl, -⟩, -, -, -, -, -, sv, cs, hbs⟩ := id hr1
      obtain ⟨a, cap, rfl, hcc, _⟩ := hbs.sl
      have Hr1 := hide hr1
      have Hg1 := hide hg1
      have Hbs := hide hbs
      clear hr1 hg1 hbs
      go_wp2_with (first | go_quiet (fail) | fail)
      have hsd := same_drewN w1 nq
      have cs2 := (hsd.cell ⟨g, 0, none⟩).trans cs
      have cp2 := (hsd.cell ⟨g, 1, none⟩).trans cp
      have hgl2 : g < (w1.drewN nq).heap.size := by rw [hsd.1]; exact hgl
      have Hr2 := hide (Hr1.out.same hsd)
      have Hg2 := hide (grown_trans Hg1.out (hsd.grown (some g)))
      have Hb2 := hide (Hbs.out.same hsd)
      clear cs cp hgl hsd ce
      generalize w1.drewN nq = W at *
      have hK2 : K ≤ cap := by have := Hle.out; omega
      have hq1 : IntKind.i64.wrap ((K : Int) + N) = (K : Int) + N := by rw [IntKind.wrap_i64]; omega
      have hq2 : wrap64 ((K : Int) + N) = (K : Int) + N := by unfold wrap64; omega
      have hq3 : ((K : Int) + N).toNat = K + N := by omega
      have hq4 : (K : Int) ≤ cap := by omega
      have hq5 : (K : Int) + N ≤ cap := by omega
      have hq6 : K + N ≤ cap := by omega
      have hq7 : (K : Int) ≤ (K : Int) + N := by omega
      have hq8 : (0 : Int) ≤ (K : Int) + N := by omega
      by_cases hcK : cap = K
      · have hfr := (Hb2.out.from Hle.out).1 hcK
        rw [← List.length_drop] at hfr
        rw [show (0 : Nat) = cap - K by omega] at hfr
        have Hfr := hide (hfr.upto HNl.out)
        have hcK2 : (cap = K) = True := eq_true hcK
        clear hfr hcK
        go_region_held3 (fun w' => (w'.cell? ⟨g, 0, none⟩ = some (.slice a l.length cap) ∧ w'.cell? ⟨g, 1, none⟩ = some (.int .i64 (K : Nat))) ∧ Below W.heap.size W w')
          (first | exact hs_drew cs2 cp2 | exact hs_of cs2 cp2 hgl2 hgl2 (by assumption))
          (first
            | (refine step_append_mine rfl (.tmp 35) (.tmp 50) rfl _ (.slice none 0 0) (.slice a N (cap - K)) [] ((l.drop K).take N) (by simp [Act.eval]) (by simp [Act.eval]) (Mine.nil _ _) (Hfr.out.kept (hs_below (by assumption))) Hlen.out (Nat.le_refl _) ?_; intro v0 w0 hap; have hB0 := below_app (W := W) (by assumption) hap))
        all_goals
          have Hr0 := hide (Hr2.out.keptBy (below_grown hB0) rfl)
          obtain ⟨e1, e2, e3, e4⟩ := Hr0.out.cells
          have hpl := Hr0.out.place (K + N) (by have := Hle.out; have := HNl.out; rw [List.length_drop] at this; omega)
          rw [show (((K + N : Nat) : Int)) = (K : Int) + N by omega] at hpl
          have Hpl := hide hpl
          have Hv0 := hide (hap.1.bys.stored e1 (.int .i64 ((K : Int) + N)))
          have HG0 := hide (grown_trans Hg2.out (grown_none (below_grown hB0)))
          clear hpl hap
          go_wp2_with fail
          go_ret
          refine ⟨_, rfl, by rw [Hs.out.1]; exact Hv0.out, by rw [Hs.out.2.1, Hs.out.2.2]; exact Hpl.out, grown_trans HG0.out (grown_setCell _ _ _ _)⟩
      · have hfr := (Hb2.out.from Hle.out).2 hcK
        rw [← List.length_drop] at hfr
        have Hfr := hide (hfr.upto HNl.out)
        clear hfr
        go_region_held3 (fun w' => (w'.cell? ⟨g, 0, none⟩ = some (.slice a l.length cap) ∧ w'.cell? ⟨g, 1, none⟩ = some (.int .i64 (K : Nat))) ∧ Below W.heap.size W w')
          (first | exact hs_drew cs2 cp2 | exact hs_of cs2 cp2 hgl2 hgl2 (by assumption))
          (first
            | (refine step_append_mine rfl (.tmp 35) (.tmp 50) rfl _ (.slice none 0 0) (.slice (Option.map (fun x => x.add K) a) N (cap - K)) [] ((l.drop K).take N) (by simp [Act.eval]) (by simp [Act.eval]) (Mine.nil _ _) (Hfr.out.kept (hs_below (by assumption))) Hlen.out (Nat.le_refl _) ?_; intro v0 w0 hap; have hB0 := below_app (W := W) (by assumption) hap))
        all_goals
          have Hr0 := hide (Hr2.out.keptBy (below_grown hB0) rfl)
          obtain ⟨e1, e2, e3, e4⟩ := Hr0.out.cells
          have hpl := Hr0.out.place (K + N) (by have := Hle.out; have := HNl.out; rw [List.length_drop] at this; omega)
          rw [show (((K + N : Nat) : Int)) = (K : Int) + N by omega] at hpl
          have Hpl := hide hpl
          have Hv0 := hide (hap.1.bys.stored e1 (.int .i64 ((K : Int) + N)))
          have HG0 := hide (grown_trans Hg2.out (grown_none (below_grown hB0)))
          clear hpl hap
          go_wp2_with fail
          go_ret
          refine ⟨_, rfl, by rw [Hs.out.1]; exact Hv0.out, by rw [Hs.out.2.1, Hs.out.2.2]; exact Hpl.out, grown_trans HG0.out (grown_setCell _ _ _ _)⟩
end Go.Proofs.Ytaioniegggfcjaa
