/-
  slices.Clone of buildings and of rectangles.
-/
import Derived.Test.YtobjadfchpgjeaaPlace
import Derived.Test.YtobjadfchpgjeaaTiles
namespace Go.Proofs.Ytobjadfchpgjeaa
open Go.RowKit
set_option linter.unusedVariables false
theorem bds_len : ∀ (l : List Bd), (l.flatMap Bd.cs).length = l.length * 5
  | [] => rfl
  | t :: r => by rw [List.flatMap_cons, List.length_append, bds_len r]; simp [Bd.cs]; omega
theorem rcs_len : ∀ (l : List Rc), (l.flatMap Rc.cs).length = l.length * 4
  | [] => rfl
  | t :: r => by rw [List.flatMap_cons, List.length_append, rcs_len r]; simp [Rc.cs]; omega
theorem one_bds {l : List Bd} : ∀ u ∈ l.flatMap Bd.cs, u.oneCell' = true := by
  intro u hu
  obtain ⟨t, _, h⟩ := List.mem_flatMap.1 hu
  simp [Bd.cs] at h
  rcases h with rfl | rfl | rfl | rfl | rfl <;> rfl
theorem one_rcs {l : List Rc} : ∀ u ∈ l.flatMap Rc.cs, u.oneCell' = true := by
  intro u hu
  obtain ⟨t, _, h⟩ := List.mem_flatMap.1 hu
  exact one_rc u h
theorem eql23 (a : Addr) (n c : Nat) (w : World) : (binOp .eql 23 (.slice (some a) n c) (.slice none 0 0)).run Try.prog w = .ok (.bool false) w := by kernel_rfl
theorem eql23' (w : World) : (binOp .eql 23 (.slice none 0 0) (.slice none 0 0)).run Try.prog w = .ok (.bool true) w := by kernel_rfl
set_option maxHeartbeats 1000000 in
theorem clone23 (l : List Bd) (v : Value) (w : World) (hv : Bds w v l) (hl : l.length ≤ 256) :
    Calls Try.prog 43 #[v] w (Cloned w 55 5 l.length (l.flatMap Bd.cs)) := by
  obtain ⟨fi, hf, hz, h1, h2⟩ := info_parts info55
  have q1 := eql23
  have q2 := eql23'
  rcases hv.2 with ⟨rfl, h0⟩ | ⟨g, cap, cur, rfl, hb, hg, hn, hm, hs, ht⟩
  · have hE : Cloned w 55 5 l.length (l.flatMap Bd.cs) (.returned (.slice none 0 0)) w := by
      obtain rfl := List.eq_nil_of_length_eq_zero h0
      exact ⟨none, 0, rfl, hv, Below.refl _ _, fun b h => by simp [Value.ownBlock] at h⟩
    have HE := hide hE
    clear hE hv h0
    go_enter Try.func43, Try.ntmps43
    go_wp2_with fail
    go_ret
    exact HE.out
  · have hcells := fun j u h => (hv.alloc (.cells #[] 55)).cells (g := g) rfl j u h
    have hm1 : 0 + l.length ≤ maxLen := by unfold maxLen; omega
    have hm2 : (0 + l.length) * 40 ≤ 140737488355328 := by omega
    have hbase : (w.alloc (.cells #[] 55)).ownsRow 0 55 5 (.slice (some ⟨w.heap.size, 0, none⟩) 0 0) 0 [] := World.ownsRow_made w #[] 0 (Nat.zero_le _) (by decide) rfl
    have HB := hide hbase
    have HC := hide hcells
    obtain ⟨n, hnn⟩ : ∃ n, n = l.length := ⟨_, rfl⟩
    have hln : (l.flatMap Bd.cs).length = l.length * 5 := bds_len l
    clear hv hbase hcells hg hs ht hb
    go_enter Try.func43, Try.ntmps43
    go_wp2_with (at_builtin; refine wpList_append_own_at _ rfl _ _ 23 rfl 0 55 fi z55 5 40 Try.underlying23 hf hz h1 h2 rfl (by decide) (.slice (some ⟨w.heap.size, 0, none⟩) 0 0) 0 [] rfl HB.out ⟨g, 0, none⟩ l.length cap (l.flatMap Bd.cs) rfl hln HC.out one_bds hm1 hm2 (Nat.zero_le _) ?_; intro v' w1 hown' hgrow hnil hloc; have HE := hide (cloned_end hown' hgrow hloc); clear hown' hgrow hnil hloc)
    go_ret
    exact HE.out
theorem eql48 (a : Addr) (n c : Nat) (w : World) : (binOp .eql 48 (.slice (some a) n c) (.slice none 0 0)).run Try.prog w = .ok (.bool false) w := by kernel_rfl
theorem eql48' (w : World) : (binOp .eql 48 (.slice none 0 0) (.slice none 0 0)).run Try.prog w = .ok (.bool true) w := by kernel_rfl
set_option maxHeartbeats 1000000 in
theorem clone48 (l : List Rc) (v : Value) (w : World) (hv : Rcs w v l) (hl : l.length * 32 ≤ 211106232532992) :
    Calls Try.prog 41 #[v] w (Cloned w 43 4 l.length (l.flatMap Rc.cs)) := by
  obtain ⟨fi, hf, hz, h1, h2⟩ := info_parts info43
  have q1 := eql48
  have q2 := eql48'
  rcases hv.2 with ⟨rfl, h0⟩ | ⟨g, cap, cur, rfl, hb, hg, hn, hm, hs, ht⟩
  · have hE : Cloned w 43 4 l.length (l.flatMap Rc.cs) (.returned (.slice none 0 0)) w := by
      obtain rfl := List.eq_nil_of_length_eq_zero h0
      exact ⟨none, 0, rfl, hv, Below.refl _ _, fun b h => by simp [Value.ownBlock] at h⟩
    have HE := hide hE
    clear hE hv h0
    go_enter Try.func41, Try.ntmps41
    go_wp2_with fail
    go_ret
    exact HE.out
  · have hcells := fun j u h => (hv.alloc (.cells #[] 43)).cells (g := g) rfl j u h
    have hm1 : 0 + l.length ≤ maxLen := by unfold maxLen; omega
    have hm2 : (0 + l.length) * 32 ≤ 211106232532992 := by omega
    have hbase : (w.alloc (.cells #[] 43)).ownsRow 0 43 4 (.slice (some ⟨w.heap.size, 0, none⟩) 0 0) 0 [] := World.ownsRow_made w #[] 0 (Nat.zero_le _) (by decide) rfl
    have HB := hide hbase
    have HC := hide hcells
    obtain ⟨n, hnn⟩ : ∃ n, n = l.length := ⟨_, rfl⟩
    have hln : (l.flatMap Rc.cs).length = l.length * 4 := rcs_len l
    clear hv hbase hcells hg hs ht hb
    go_enter Try.func41, Try.ntmps41
    go_wp2_with (at_builtin; refine wpList_append_big rfl _ _ 48 rfl 0 43 fi z43 4 32 Try.underlying48 hf hz h1 h2 rfl (by decide) (.slice (some ⟨w.heap.size, 0, none⟩) 0 0) 0 [] rfl HB.out ⟨g, 0, none⟩ l.length cap (l.flatMap Rc.cs) rfl hln HC.out one_rcs hm1 hm2 (Nat.zero_le _) ?_; intro v' w1 hown' hgrow hnil hloc; have HE := hide (cloned_end hown' hgrow hloc); clear hown' hgrow hnil hloc)
    go_ret
    exact HE.out
end Go.Proofs.Ytobjadfchpgjeaa
