/-
  The law's awake: the lesser one comes first.
-/
import Derived.Test.YtdhiomahcilffaaPo
namespace Go.Proofs.Ytdhiomahcilffaa
open Go.RowKit
set_option linter.unusedVariables false
set_option linter.unusedSimpArgs false
theorem Hs.len {w : World} {b : Nat} {v : Value} {n : Int} {S : List It} (h : Hs w b v n S) : ∃ a cap, v = .slice a S.length cap ∧ S.length ≤ maxLen ∧ Hp w b (.slice a S.length cap) n false := by
  obtain ⟨l, h1, h2, h3, h4⟩ := h
  obtain ⟨a, cap, rfl, hm⟩ := h2.slice
  rw [h4.length_eq] at h1 hm ⊢
  exact ⟨a, cap, rfl, hm, h1⟩
theorem hlen_is (b : Nat) (v : Value) (n : Int) (S : List It) (w : World) (h : Hs w b v n S) : Calls Try.prog 12 #[ptr b] w fun e w' => e = .returned (.int .i64 (S.length : Nat)) ∧ w' = w := by
  obtain ⟨a, cap, rfl, hm, hp⟩ := h.len
  exact len_any b a _ cap n false w hp
theorem Hs.own {w : World} {b : Nat} {v : Value} {n : Int} {S : List It} (h : Hs w b v n S) : b < w.heap.size ∧ (∀ k, v.ownBlock = some k → k < w.heap.size) ∧ v.ownBlock ≠ some b := by
  obtain ⟨l, h1, h2, h3, h4⟩ := h
  refine ⟨h1.lt, fun k e => ?_, h1.ne_row h2 (by decide)⟩
  rcases h2.2 with ⟨rfl, _⟩ | ⟨g, cap, cur, rfl, _, hg, _⟩
  · simp [Value.ownBlock] at e
  · simp [Value.ownBlock] at e; subst e; exact (Array.getElem?_eq_some_iff.1 hg).1
theorem hnew_is (w : World) : Calls Try.prog 7 #[fn8] w fun e w' => e = .returned (ptr w.heap.size) ∧ Hs w' w.heap.size (.slice none 0 0) 0 [] ∧ Below w.heap.size w w' ∧ w.heap.size < w'.heap.size := by
  refine (new_any w).mono ?_
  rintro e w' ⟨rfl, rfl⟩
  exact ⟨rfl, ⟨[], heap_alloc_new w _, World.ownsRow_nil _ _ _ _, Heap.nil, List.Perm.refl _⟩, box1 _ _, by simp⟩
theorem awake_is (w : World) : Calls Try.prog 14 #[] w fun e w' => e = .returned (.bool true) ∧ Below w.heap.size w w' := by
  go_enter Try.func14, Try.ntmps14
  go_wp2_with fail
  refine (hnew_is w).mono ?_
  rintro e w1 ⟨rfl, h1, b1, z1⟩
  have H1 := hide h1
  have HB1 := hide b1
  clear h1 b1
  go_wp2_with fail
  refine (push_is _ _ _ _ 9 0 w1 H1.out (by omega) (by simp)).mono ?_
  rintro e w2 ⟨rfl, v2, h2, t2, o2⟩
  have H2 := hide h2
  have HT2 : Hid (Turns (fun k => w.heap.size ≤ k) w w2) := hide ((Turns.of_below HB1.out).trans (t2.mono (fun k _ e => by rcases e with e | e; exact .inr (Nat.le_of_eq e.symm); simp [Value.ownBlock] at e)))
  have HO2 : Hid (∀ k, v2.ownBlock = some k → w.heap.size ≤ k) := hide fun k e => by rcases o2 k e with q | q; simp [Value.ownBlock] at q; omega
  clear h2 t2 o2
  go_wp2_with fail
  refine (push_is _ _ _ _ 1 0 w2 H2.out (by omega) (by simp)).mono ?_
  rintro e w3 ⟨rfl, v3, h3, t3, o3⟩
  have H3 := hide h3
  have HT3 : Hid (Turns (fun k => w.heap.size ≤ k) w w3) := hide (HT2.out.trans (t3.mono (fun k _ e => by rcases e with e | e; exact .inr (Nat.le_of_eq e.symm); exact .inl (HO2.out k e))))
  have HO3 : Hid (∀ k, v3.ownBlock = some k → w.heap.size ≤ k) := hide fun k e => by
    have := HT2.out.size
    rcases o3 k e with q | q
    · exact HO2.out k q
    · omega
  clear h3 t3 o3
  go_wp2_with fail
  refine (pop_yes _ _ _ _ w3 H3.out (by simp) (by simp)).mono ?_
  rintro e w4 ⟨t, rfl, v4, S4, p4, l4, h4, t4, o4⟩
  have ht : t.k = 1 ∧ S4.length = 1 := by
    have hm : t ∈ [(⟨1, 0, 0 + 1⟩ : It), ⟨9, 0, 0⟩] := p4.mem_iff.2 (by simp)
    have hn := l4 ⟨1, 0, 0 + 1⟩ (by simp)
    have hl := p4.length_eq
    simp at hl
    refine ⟨?_, by omega⟩
    simp only [List.mem_cons, List.not_mem_nil, or_false] at hm
    rcases hm with rfl | rfl
    · rfl
    · rw [lt_not] at hn; simp at hn
  obtain ⟨ht1, ht2⟩ := ht
  rw [ht1]
  have H4 := hide h4
  have HT4 : Hid (Turns (fun k => w.heap.size ≤ k) w w4) := hide (HT3.out.trans (t4.mono (fun k _ e => by rcases e with e | e; exact .inr (Nat.le_of_eq e.symm); exact .inl (HO3.out k e))))
  have HN := hide ht2
  clear h4 t4 o4 p4 l4 ht1 ht2
  have HL : Hid (∀ o, Calls Try.prog 12 #[ptr w.heap.size] (w4.alloc o) fun e w' => e = .returned (.int .i64 1) ∧ w' = w4.alloc o) := hide fun o => by
    have := hlen_is _ _ _ _ _ (H4.out.upto (box1 w4 o))
    rw [HN.out] at this
    exact this
  go_wp2_with (go_at_call 12; refine (HL.out _).mono ?_; rintro e w5 ⟨rfl, rfl⟩)
  go_ret
  exact ⟨rfl, ((HT4.out.below (fun _ h => h) (Nat.le_refl _)).alloc (HT4.out.size) _)⟩
end Go.Proofs.Ytdhiomahcilffaa
