/-
  awake: unit 1 takes place 0, unit 0 place 1.
-/
import Derived.Test.YtmkoleioipklpaaMch
namespace Go.Proofs.Ytmkoleioipklpaa
open Go.RowKit
set_option linter.unusedVariables false
set_option linter.unusedSimpArgs false
theorem aw_rfs : rfs [(0, 0), (3, 0)] [(2, 0), (9, 0)] = 0 := by decide
theorem aw_d : dst [(0, 0), (3, 0)] [(2, 0), (9, 0)] 0 0 = 20 ∧ dst [(0, 0), (3, 0)] [(2, 0), (9, 0)] 0 1 = 90 ∧ dst [(0, 0), (3, 0)] [(2, 0), (9, 0)] 1 0 = 10 ∧ dst [(0, 0), (3, 0)] [(2, 0), (9, 0)] 1 1 = 60 := by decide
theorem aw_grd : Grd 2 (ltD (dst [(0, 0), (3, 0)] [(2, 0), (9, 0)])) [(1, 0), (0, 1)] := by
  obtain ⟨d00, d01, d10, d11⟩ := aw_d
  refine (Grd.nil.snoc (q := (1, 0)) ⟨by decide, by decide⟩ (fun e h => by cases h) (fun e he _ h => ?_)).snoc (q := (0, 1)) ⟨by decide, by decide⟩ (fun e h => ?_) (fun e he hf h => ?_)
  · obtain ⟨a, b⟩ := e
    obtain ⟨ha, hb⟩ := he
    dsimp only at ha hb
    rcases (show a = 0 ∨ a = 1 by omega) with rfl | rfl <;> rcases (show b = 0 ∨ b = 1 by omega) with rfl | rfl <;> simp [ltD, d00, d01, d10, d11] at h
  · rw [List.nil_append, List.mem_singleton] at h
    subst h
    decide
  · obtain ⟨a, b⟩ := e
    obtain ⟨ha, hb⟩ := he
    have := hf (1, 0) (by simp)
    dsimp only at ha hb this
    rcases (show a = 0 ∨ a = 1 by omega) with rfl | rfl <;> rcases (show b = 0 ∨ b = 1 by omega) with rfl | rfl <;> first | (simp at this; done) | (simp [ltD] at h; done)
theorem aw_m {M : List Int} {E : Int} (h : MtR [(0, 0), (3, 0)] [(2, 0), (9, 0)] M E) : M = [1, 0] ∧ E = 0 := by
  have k : MtR [(0, 0), (3, 0)] [(2, 0), (9, 0)] [1, 0] 0 := .inr ⟨aw_rfs, rfl, [(1, 0), (0, 1)], aw_grd, rfl, by decide⟩
  exact h.one k
theorem two_ceR {X : World} {g : Nat} {a b c d : Int} (KX : Bk X g 35 [.int .i64 a, .int .i64 b, .int .i64 c, .int .i64 d]) : CeR X (.slice (some ⟨g, 0, none⟩) 2 2) [(a, b), (c, d)] := ⟨some ⟨g, 0, none⟩, 2, rfl, Nat.le_refl _, (by show 2 ≤ maxLen; decide), (fun e => by cases e), fun i q hi => ⟨g, 0, rfl, KX.lt, fun j u hu => by
    have hj : j < 2 := (List.getElem?_eq_some_iff.1 hu).1
    rw [Nat.zero_add]
    exact KX.cell (i * 2 + j) u (by
      have := rw_get ceCs_len [((a : Int), (b : Int)), (c, d)] i q j hi hj
      rw [hu] at this
      exact this)⟩⟩
set_option maxRecDepth 100000 in
set_option maxHeartbeats 4000000 in
theorem awake_any (w : World) : Calls Try.prog 7 #[] w fun e w' => e = .returned (.bool true) ∧ Below w.heap.size w w' := by
  obtain ⟨X, hX⟩ : ∃ X, w.alloc (.cells #[.int .i64 0, .int .i64 0, .int .i64 3, .int .i64 0] 35) = X := ⟨_, rfl⟩
  have BX : Below w.heap.size w X := by rw [← hX]; exact box1 _ _
  have KX : Bk X w.heap.size 35 [.int .i64 0, .int .i64 0, .int .i64 3, .int .i64 0] := by rw [← hX]; exact Bk.new _ _ _
  obtain ⟨V, hV⟩ : ∃ V, X.alloc (.cells #[.int .i64 2, .int .i64 0, .int .i64 9, .int .i64 0] 35) = V := ⟨_, rfl⟩
  have BV : Below X.heap.size X V := by rw [← hV]; exact box1 _ _
  have KV : Bk V X.heap.size 35 [.int .i64 2, .int .i64 0, .int .i64 9, .int .i64 0] := by rw [← hV]; exact Bk.new _ _ _
  have HL := hide (match_is _ _ _ _ V (two_ceR (KX.upto BV)) (two_ceR KV))
  have HX := hide hX
  have HV := hide hV
  have HB := hide (bt BX BV)
  clear hX BX KX hV BV KV
  go_enter Try.func7, Try.ntmps7
  go_wp2_with (first | rw [HX.out] | rw [HV.out])
  refine HL.out.mono ?_
  rintro e w1 ⟨v, E, M, rfl, hb, hI, -, hM⟩
  obtain ⟨rfl, rfl⟩ := aw_m hM
  obtain ⟨a, cap, rfl, hcap, -⟩ := hI.slice
  obtain ⟨g, o, hga, hgl, c0⟩ := Ir.at hI rfl (i := 0) (q := 1) rfl
  obtain ⟨g2, o2, hga2, -, c1⟩ := Ir.at hI rfl (i := 1) (q := 0) rfl
  subst hga
  cases hga2
  have HB1 := hide (bt HB.out hb)
  rw [Nat.add_zero] at c0
  clear hb HL HX hI hM HV HB
  go_wp2_with fail
  go_ret
  exact ⟨rfl, HB1.out⟩
end Go.Proofs.Ytmkoleioipklpaa
