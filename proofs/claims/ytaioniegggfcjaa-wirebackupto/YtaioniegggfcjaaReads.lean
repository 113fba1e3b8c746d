/-
  What a reader's methods tell, of a reader that lies in memory and of none.
-/
import Derived.Test.YtaioniegggfcjaaReader
namespace Go.Proofs.Ytaioniegggfcjaa
open Go.RowKit
set_option linter.unusedVariables false
theorem numK_le {l : List Nat} (hs : Small l) : numK l ≤ l.length := by
  cases h : dec 0 l with
  | none => rw [(num_none h).2]; omega
  | some p => obtain ⟨n, k⟩ := p; rw [(num_some h).2]; exact (dec_form l 0 hs n k h).1
theorem numK_zero {l : List Nat} (hs : Small l) (h : numK l = 0) : dec 0 l = none := by
  cases hd : dec 0 l with
  | none => rfl
  | some p =>
    obtain ⟨n, k⟩ := p
    rw [(num_some hd).2] at h
    have := congrArg List.length (dec_form l 0 hs n k hd).2.1
    have hp := enc_pos n
    rw [h] at this
    simp at this
    omega
theorem numN_lt {l : List Nat} (hs : Small l) : numN l < 18446744073709551616 := by
  cases h : dec 0 l with
  | none => rw [(num_none h).1]; omega
  | some p => obtain ⟨n, k⟩ := p; rw [(num_some h).1]; simpa using (dec_form l 0 hs n k h).2.2.2.1
theorem num_nil : numN [] = 0 ∧ numK [] = 0 := ⟨rfl, rfl⟩
theorem small_rest {l : List Nat} (hs : Small l) (k e : Nat) : Small (restOf l k e) := by
  unfold restOf; split
  · exact small_drop hs k
  · exact small_nil
theorem rest_len (l : List Nat) (k e : Nat) : (restOf l k e).length ≤ l.length - k := by
  unfold restOf; split <;> simp
theorem Rd.bytes {w : World} {g : Nat} {l : List Nat} {k e : Nat} (h : Rd w g l k e) : Small l ∧ l.length ≤ 140737488355328 ∧ k ≤ l.length := by
  obtain ⟨⟨h1, -⟩, h2, h3, h4, h5, h6, sv, h7, h8⟩ := h
  exact ⟨h8.small, h8.len, h2⟩
theorem Rd.cells {w : World} {g : Nat} {l : List Nat} {k e : Nat} (h : Rd w g l k e) : w.cell? ⟨g, 1, none⟩ = some (.int .i64 (k : Nat)) ∧ w.frozen? ⟨g, 1, none⟩ = false ∧ (k : Int) ≤ 140737488355328 ∧ (0 : Int) ≤ k := by
  have := h.bytes
  obtain ⟨⟨h1, -⟩, h2, h3, h4, h5, h6, sv, h7, h8⟩ := h
  exact ⟨h5, h3, by omega, by omega⟩
/-- What is wrong behind a number that is not there. -/
def bad (l : List Nat) (k e : Nat) : Nat := if numK (restOf l k e) = 0 then first e 5 else e
def stand (l : List Nat) (k e : Nat) : Nat := k + numK (restOf l k e)
theorem stand_le {l : List Nat} {k e : Nat} (hs : Small l) (hk : k ≤ l.length) : stand l k e ≤ l.length := by
  have h1 := numK_le (small_rest hs k e)
  have h2 := rest_len l k e
  unfold stand; omega
theorem uv_nil (w : World) : Calls Try.prog 13 #[.pointer none] w fun x w' => x = .returned (.int .u64 0) ∧ w' = w := by
  go_enter Try.func13, Try.ntmps13
  go_wp2_with fail
  refine (rest_nil _).mono ?_; rintro e wz ⟨rfl, hwz⟩; rw [hwz]; clear hwz wz
  go_wp2_with fail
  refine (number_any w _ [] (Bys.nil w)).mono ?_; rintro e wz ⟨rfl, hwz⟩; rw [hwz, num_nil.1, num_nil.2]; clear hwz wz
  go_wp2_with fail
  refine (fail_nil _ _).mono ?_; rintro e wz ⟨rfl, hwz⟩; rw [hwz]; clear hwz wz
  go_wp2
  go_ret
  exact ⟨rfl, rfl⟩
theorem uv_any (w : World) (g : Nat) (l : List Nat) (k e : Nat) (h : Rd w g l k e) :
    Calls Try.prog 13 #[.pointer (some ⟨g, 0, none⟩)] w fun x w' => x = .returned (.int .u64 (numN (restOf l k e) : Nat)) ∧ Rd w' g l (stand l k e) (bad l k e) ∧ w.grownBy w' (some g) := by
  have hB := h.bytes
  have hlen := numK_le (small_rest hB.1 k e)
  have hlen2 := rest_len l k e
  have H := hide h
  clear h
  go_enter Try.func13, Try.ntmps13
  go_wp2_with fail
  refine (rest_any _ _ _ _ _ H.out).mono ?_
  rintro x w1 ⟨v, rfl, hv, hs⟩
  have hr1 := H.out.same hs
  have hnum := number_any w1 v _ hv
  have Hs := hide hs
  clear hs
  go_wp2_with fail
  refine hnum.mono ?_; rintro e wz ⟨rfl, hwz⟩; rw [hwz]; clear hwz wz hnum hv
  by_cases h0 : numK (restOf l k e) = 0
  · have Hn := hide (num_none (numK_zero (small_rest hB.1 k e) h0))
    have Hb : Hid (bad l k e = first e 5 ∧ stand l k e = k) := by show _ ∧ _; simp [bad, stand, h0]
    have hz : ((numK (restOf l k e) : Nat) : Int) = 0 := by omega
    have Hf := hide (fail_any w1 g l k e 5 hr1)
    clear h0 hlen hlen2 hr1
    go_wp2_with fail
    refine Hf.out.mono ?_; rintro x w2 ⟨rfl, hr2, hg2⟩
    have Hr2 := hide hr2
    have Hg2 := hide (grown_trans (Hs.out.grown (some g)) hg2)
    clear hr2 hg2
    go_wp2_with fail
    go_ret
    exact ⟨ret_i (by rw [Hn.out.1]; rfl), by rw [Hb.out.1, Hb.out.2]; exact Hr2.out, Hg2.out⟩
  · have Hb : Hid (bad l k e = e) := by show _ = _; simp [bad, h0]
    have hz : (((numK (restOf l k e) : Nat) : Int) == 0) = false := by simp; omega
    have hz2 : ((numK (restOf l k e) : Nat) : Int) ≤ 140737488355328 := by omega
    have hz3 : (0 : Int) ≤ ((numK (restOf l k e) : Nat) : Int) := by omega
    have hst := stand_le (e := e) hB.1 hB.2.2
    have Hsum : Hid ((k : Int) + ((numK (restOf l k e) : Nat) : Int) = (stand l k e : Nat)) := by show _ = _; unfold stand; omega
    have Hr3 := hide (hr1.place (stand l k e) hst)
    obtain ⟨c1, c2, c3, c4⟩ := hr1.cells
    clear h0 hlen hlen2 hr1 hst
    generalize ((numK (restOf l k e) : Nat) : Int) = q at *
    go_wp2_with fail
    go_ret
    refine ⟨rfl, ?_, ?_⟩
    · rw [Hb.out, Hsum.out]; exact Hr3.out
    · exact grown_trans (Hs.out.grown (some g)) (grown_setCell _ _ _ _)
end Go.Proofs.Ytaioniegggfcjaa
