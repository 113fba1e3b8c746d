/-
  What phalanxlaw04.awake tells.
-/
import Derived.Test.YtobjadfchpgjeaaNew
set_option linter.unusedSimpArgs false
namespace Go.Proofs.Ytobjadfchpgjeaa
open Go.RowKit
set_option linter.unusedVariables false
def tl12 : List Nat := List.replicate 12 0
def bd7 : Bd := ⟨7, 1, 1, 2, 2⟩
theorem make12 (w : World) : (Instr.makeSlice 22 (.int .i64 12) (.int .i64 12)).run Try.prog w = .ok (.slice (some ⟨w.heap.size, 0, none⟩) 12 12) (w.alloc (.cells (tl12.map (fun n => Value.int .u8 (n : Nat))).toArray 5)) := by kernel_rfl
theorem made12 (w : World) : Tls (w.alloc (.cells (tl12.map (fun n => Value.int .u8 (n : Nat))).toArray 5)) (.slice (some ⟨w.heap.size, 0, none⟩) 12 12) tl12 :=
  ⟨rfl, .inr ⟨w.heap.size, 12, _, rfl, Nat.zero_le _, heap_alloc_new w _, Nat.le_refl _, by decide, rfl, rfl⟩⟩
theorem mt12 : mt 4 3 tl12 = true := by decide
theorem lt12 : ∀ x ∈ tl12, x < 256 := by decide
theorem code7 : code 4 3 (whoL []) [] bd7 = 0 := by decide
theorem who7 : putAll (whoL []) (allC 1 1 2 2) 7 2 2 = some 7 := by decide
theorem new12 (w : World) : Calls Try.prog 26 #[mp 4 3 (.slice (some ⟨w.heap.size, 0, none⟩) 12 12) (.slice none 0 0)] (w.alloc (.cells (tl12.map (fun n => Value.int .u8 (n : Nat))).toArray 5))
    fun e w' => ∃ p, e = .returned (.tuple #[ptr p, .int .i64 0]) ∧ Made (w.alloc (.cells (tl12.map (fun n => Value.int .u8 (n : Nat))).toArray 5)) 4 3 tl12 [] p w' := by
  refine (new_good 4 3 _ (.slice none 0 0) tl12 [] _ (made12 w).r lt12 (BdR.nil _) mt12).mono ?_
  rintro e w' (⟨-, p, he, hm⟩ | ⟨h, -⟩)
  · exact ⟨p, he, hm⟩
  · cases h
/-- Of a World behind New: a building is placed and asked for. -/
theorem place7 (w : World) (p : Nat) (w0 : World) (h : Made w0 4 3 tl12 [] p w) : Calls Try.prog 23 #[ptr p, .agg #[.int .i64 7, .int .i64 1, .int .i64 1, .int .i64 2, .int .i64 2]] w fun e w' => e = .returned (.int .i64 0) ∧ Below w0.heap.size w0 w' ∧
    (∀ wx, Below w'.heap.size w' wx → Calls Try.prog 13 #[ptr p, .agg #[.int .i64 2, .int .i64 2]] wx fun e w2 => e = .returned (.tuple #[.int .i64 7, .bool true]) ∧ Below wx.heap.size wx w2) ∧
    ∀ wx, Below w'.heap.size w' wx → Calls Try.prog 25 #[ptr p] wx fun e w2 => e = .returned (.int .i64 1) ∧ w2 = wx := by
  obtain ⟨bm, tv, bv, d1, d2, d3, d4, d5, p1, p2, p3, p4⟩ := h
  refine (place_yes p bm _ 4 3 tv bv _ (whoL []) [] [] bd7 w d1 d4 d3 (World.ownsRow_nil _ _ _ _) List.Pairwise.nil (by decide) (by decide) (by decide) code7).mono ?_
  rintro e w' ⟨rfl, bv', ev', q1, q2, q3, q4, q5, q6, q7⟩
  refine ⟨rfl, d5.trans (q5.below (fun k hk => ?_) d5.size), fun wx hx => ?_, fun wx hx => ?_⟩
  · rcases hk with h | h | h | h
    · omega
    · omega
    · exact p4 k h
    · simp [Value.ownBlock] at h
  · have T : Turns NoB w' wx := Turns.of_below hx
    have := at_world p bm _ 4 3 tv bv' ev' _ 2 2 (by decide) (by decide) wx (q1.kept T id) (q3.kept T id)
    rw [show putAll (whoL []) (allC bd7.x bd7.y bd7.a bd7.b) bd7.id 2 2 = some 7 from who7] at this
    exact this
  · have T : Turns NoB w' wx := Turns.of_below hx
    exact epoch_world p bm 4 3 tv bv' ev' _ wx (q1.kept T id) (q4.kept T (fun _ _ => id))
set_option maxRecDepth 100000 in
set_option maxHeartbeats 1000000 in
theorem awake_any (w : World) : Calls Try.prog 10 #[] w fun e w' => e = .returned (.bool true) ∧ Below w.heap.size w w' := by
  have HN := hide (new12 w)
  obtain ⟨X, hX⟩ : ∃ X, w.alloc (.cells (tl12.map (fun n => Value.int .u8 (n : Nat))).toArray 5) = X := ⟨_, rfl⟩
  have B0 : Below w.heap.size w X := by rw [← hX]; exact box1 _ _
  have hmk : (Instr.makeSlice 22 (.int .i64 12) (.int .i64 12)).run Try.prog w = .ok (.slice (some ⟨w.heap.size, 0, none⟩) 12 12) X := by rw [make12 w, hX]
  rw [hX] at HN
  clear hX
  go_enter Try.func10, Try.ntmps10
  go_wp2_with (first | (go_at_call 26; refine HN.out.mono ?_; clear HN; rintro e w1 ⟨p, rfl, hM⟩; have HP := hide (place7 w1 p X hM); clear hM)  | (go_at_call 23; refine HP.out.mono ?_; clear HP; rintro e w2 ⟨rfl, hb2, hA, hE⟩; have HA := hide (hA w2 (Below.refl _ _)); have HE := hide hE; clear hA hE)  | (go_at_call 13; refine HA.out.mono ?_; clear HA; rintro e w3 ⟨rfl, hb3⟩; have HE3 := hide (HE.out w3 hb3); clear HE)  | (go_at_call 25; refine HE3.out.mono ?_; rintro e w4 ⟨rfl, rfl⟩))
  go_ret
  exact ⟨rfl, bt (bt B0 hb2) hb3⟩
end Go.Proofs.Ytobjadfchpgjeaa
