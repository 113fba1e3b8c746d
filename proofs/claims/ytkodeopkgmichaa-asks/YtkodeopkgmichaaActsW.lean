/-
  OccupyActs, walked.
-/
import Derived.Test.YtkodeopkgmichaaDoes
import Derived.Test.YtkodeopkgmichaaAwake
namespace Go.Proofs.Ytkodeopkgmichaa
open Go.RowKit Go.Shelf
set_option linter.unusedVariables false
set_option linter.unusedSimpArgs false
/-- Both indexes at the beginning. -/
theorem Du.begin {w w1 : World} (hB : Below w.heap.size w w1) (h : Ix w1 (w.heap.size + 1 + 1) w.heap.size (w.heap.size + 1) 0 0 (fun _ => none) (fun _ _ => none)) :
    Du (w1.alloc (.cells #[.slice none 0 0] 29)) (w.heap.size + 1 + 1) w.heap.size (w.heap.size + 1) 0 w1.heap.size (.slice none 0 0) [] := by
  have hl := h.lt
  have hb := box1 w1 (.cells #[.slice none 0 0] 29)
  have hst : St w1 (w.heap.size + 1 + 1) w.heap.size (w.heap.size + 1) 0 [] := ⟨h, Fine.nil⟩
  refine ⟨hst.kept hb, ⟨heap_alloc_new w1 _, Us.nil _⟩, by simp [Value.ownBlock], fun k e => by simp [Value.ownBlock] at e, by simp [Value.ownBlock], by omega, by omega, ?_, ?_⟩
  · have := hb.size; omega
  · have := hb.size; omega
set_option maxRecDepth 100000 in
set_option maxHeartbeats 4000000 in
theorem acts_walk (v0 : Value) (K : List Ac) (w : World) (h : AcR w v0 K) (hK : K.length ≤ 140737488355328) :
    Calls Try.prog 3 #[v0] w fun e w' => e = .returned (.bool true) ∧ Below w.heap.size w w' := by
  obtain ⟨a0, c0, rfl, hlc, hcm, hok, hat⟩ := h
  have HAt := hide hat
  have HOk := hide hok
  have hKI : (0 : Int) ≤ (K.length : Nat) ∧ ((K.length : Nat) : Int) ≤ 140737488355328 := by omega
  clear hat hok hlc hcm
  go_enter Try.func3, Try.ntmps3
  go_wp2_with fail
  refine (awake_any w).mono ?_
  rintro e w1 ⟨rfl, hb1⟩
  go_wp2_with fail
  refine (new_any w1).mono ?_
  rintro e w2 ⟨rfl, hb2, h2⟩
  have D0 := Du.begin hb2 h2
  have B0 : Below w.heap.size w (w2.alloc (.cells #[.slice none 0 0] 29)) := bt hb1 (bt hb2 (box1 _ _))
  have hz1 := hb1.size
  obtain ⟨fm, hfm⟩ : ∃ fm, w1.heap.size = fm := ⟨_, rfl⟩
  obtain ⟨r, hr⟩ : ∃ r, w2.heap.size = r := ⟨_, rfl⟩
  obtain ⟨X, hX⟩ : ∃ X, w2.alloc (.cells #[.slice none 0 0] 29) = X := ⟨_, rfl⟩
  have hrl : w.heap.size ≤ fm ∧ w.heap.size ≤ r := by have := hb2.size; omega
  rw [hfm, hr, hX] at D0
  rw [hX] at B0
  go_wp2_with (first | rw [hX])
  have HD := hide D0
  have HB := hide B0
  clear D0 B0 hb1 hb2 h2 hX hz1 hfm hr
  go_loopw [5] (fun d wr => ∃ (k m : Nat) (v : Value) (l : List Bd), k ≤ K.length ∧ d = .int .i64 k ∧ m ≤ 16 * k ∧ Du wr (fm + 1 + 1) fm (fm + 1) m r v l ∧ Below w.heap.size w wr) (fun d _ => K.length - (intOf d).toNat)
  case atStart => exact ⟨0, 0, _, _, Nat.zero_le _, rfl, Nat.le_refl _, HD.out, HB.out⟩
  case round =>
    clear HD HB
    obtain ⟨k, m, v, l, hk, rfl, hm, hD, hB⟩ := hrel
    by_cases hlt : k < K.length
    · obtain ⟨t, ht⟩ : ∃ t, K[k]? = some t := ⟨_, List.getElem?_eq_getElem hlt⟩
      obtain ⟨g, o, rfl, hg, d0, d1, d2, d3, d4, d5⟩ := (HAt.out k t ht).kept hB (Nat.le_refl _)
      have hki : (k : Int) < (K.length : Nat) := by omega
      have hk0 : (0 : Int) ≤ (k : Nat) := by omega
      have HC := hide (does_any (fm + 1 + 1) fm (fm + 1) m r v l t (HOk.out t (List.mem_of_getElem? ht)) _ hD (by unfold maxLen; omega))
      have HB := hide hB
      clear hD hB
      go_wp2_with fail
      refine HC.out.mono ?_
      rintro e w3 ⟨rfl, m', v', l', hm', hD', hT⟩
      have HD := hide hD'
      have HB3 := hide (HB.out.trans (hT.below (B := w.heap.size) (fun j e => by rcases e with (e | e) | e <;> omega) HB.out.size))
      clear hD' hT
      go_wp2_with fail
      go_roundw
      case rel => exact ⟨k + 1, m', v', l', by omega, by go_num, by omega, HD.out, HB3.out⟩
      case measure => simp [intOf]; omega
    · obtain rfl : k = K.length := by omega
      have hki : ¬ ((K.length : Nat) : Int) < (K.length : Nat) := by omega
      have HS := hide (same_yes (fm + 1 + 1) fm (fm + 1) m r v l _ hD.st hD.rx)
      have HB := hide hB
      clear hD hB
      go_wp2_with fail
      refine HS.out.mono ?_
      rintro e w3 ⟨rfl, hb3⟩
      have HB3 := hide (bt HB.out hb3)
      have HA := hide (awake_any w3)
      clear hb3
      go_wp2_with fail
      refine HA.out.mono ?_
      rintro e w4 ⟨rfl, hb4⟩
      have HB4 := hide (bt HB3.out hb4)
      clear hb4
      go_wp2_with fail
      go_ret
      exact ⟨rfl, HB4.out⟩
end Go.Proofs.Ytkodeopkgmichaa
