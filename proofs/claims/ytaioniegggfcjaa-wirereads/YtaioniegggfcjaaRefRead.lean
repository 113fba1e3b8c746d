/-
  The document's answer (package phalanxref02), reading: next, wrong, Done, ReadUvarint, ReadVarint.
-/
import Derived.Test.YtaioniegggfcjaaReads4
namespace Go.Proofs.Ytaioniegggfcjaa
open Go.RowKit
set_option linter.unusedVariables false
theorem ret_ib {k : IntKind} {a b : Int} {p q : Bool} (h : a = b) (h2 : p = q) : Ending.returned (.tuple #[.int k a, .bool p]) = .returned (.tuple #[.int k b, .bool q]) := by rw [h, h2]
def backK (e at' k : Nat) : Nat := if e = 0 then at' else k
theorem wrong_any (w : World) (g : Nat) (l : List Nat) (k e y at' : Nat) (h : Rd w g l k e) (hat : at' ≤ l.length) : Calls Try.prog 45 #[.pointer (some ⟨g, 0, none⟩), .int .i64 (y : Nat), .int .i64 (at' : Nat)] w fun x w' => x = .returned (.tuple #[]) ∧ Rd w' g l (backK e at' k) (first e y) ∧ w.grownBy w' (some g) := by
  have H := hide h
  obtain ⟨⟨h1, -⟩, h2, h3, h4, h5, h6, sv, h7, h8⟩ := h
  clear h8
  by_cases h0 : e = 0
  · subst h0
    have H2 := hide ((H.out.wrong y).place at' hat)
    have f2 : (w.setCell ⟨g, 2, none⟩ (.int .i64 (y : Nat))).frozen? ⟨g, 1, none⟩ = false := by simpa using h3
    have f1 : (w.setCell ⟨g, 2, none⟩ (.int .i64 (y : Nat))).cell? ⟨g, 1, none⟩ = some (.int .i64 (k : Nat)) := by rw [World.cell?_setCell_other _ _ _ _ (by simp)]; exact h5
    go_enter Try.func45, Try.ntmps45
    go_wp2
    go_end0
    exact ⟨rfl, H2.out, grown_trans (grown_setCell w g 2 _) (grown_setCell _ g 1 _)⟩
  · have Hr : Hid (first e y = e ∧ backK e at' k = k) := by show _ ∧ _; simp [first, backK, h0]
    have hz : ((e : Int) == 0) = false := by simp; omega
    clear h0
    go_enter Try.func45, Try.ntmps45
    go_wp2
    go_end0
    exact ⟨rfl, by rw [Hr.out.1, Hr.out.2]; exact H.out, grown_refl _ _⟩
/-- The cells that the next byte is read from. -/
theorem next_cells {w : World} {g : Nat} {l : List Nat} {k : Nat} (h : Rd w g l (k + 1) 0) (hk : k < l.length) : ∃ b o cap, w.cell? ⟨g, 0, none⟩ = some (.slice (some ⟨b, o, none⟩) l.length cap) ∧ w.cell? ⟨g, 1, none⟩ = some (.int .i64 ((k : Int) + 1)) ∧ w.cell? ⟨b, o + k, none⟩ = some (.int .u8 (dig l k : Nat)) := by
  obtain ⟨⟨h1, -⟩, h2, h3, h4, h5, h6, sv, h7, h8⟩ := h
  obtain ⟨b, o, cap, rfl, hc, hb1, hcell⟩ := h8.cells (fun e => by subst e; simp at hk)
  exact ⟨b, o, cap, h7, h5, hcell k hk⟩
/-- The next byte is there. -/
theorem next_there (w : World) (g : Nat) (l : List Nat) (k : Nat) (h : Rd w g l k 0) (hk : k < l.length) : Calls Try.prog 44 #[.pointer (some ⟨g, 0, none⟩)] w fun x w' => x = .returned (.tuple #[.int .u8 (dig l k : Nat), .bool true]) ∧ Rd w' g l (k + 1) 0 ∧ w.grownBy w' (some g) := by
  have H := hide h
  have hlen := h.bytes
  have Hk := hide hk
  obtain ⟨⟨h1, -⟩, h2, h3, h4, h5, h6, sv, h7, h8⟩ := h
  obtain ⟨a, cap, rfl, hc, _⟩ := h8.sl
  have hz2 : (k : Int) < l.length := by omega
  have hz3 : (0 : Int) ≤ k := by omega
  have hz4 : (l.length : Int) ≤ 140737488355328 := by omega
  have hd : decide ((l.length : Int) ≤ (k : Int)) = false := by simp; omega
  have h0' : w.cell? ⟨g, 2, none⟩ = some (.int .i64 0) := h6
  obtain ⟨x, hx⟩ : ∃ x : Int, x = (dig l k : Nat) := ⟨_, rfl⟩
  rw [← hx]
  have Hx := hide hx
  clear h8 h6 hlen hk hx
  go_enter Try.func44, Try.ntmps44
  go_wp2_with (first | go_quiet (fail) | fail)
  have hR := (H.out.same (same_drewN w nq)).place (k + 1) (by have := Hk.out; omega)
  have HG := hide (grown_trans ((same_drewN w nq).grown (some g)) (grown_setCell (w.drewN nq) g 1 (.int .i64 ((k : Int) + 1))))
  rw [show (((k + 1 : Nat)) : Int) = (k : Int) + 1 by omega] at hR
  obtain ⟨b, o, cap', s0, s1, s2⟩ := next_cells hR Hk.out
  have HR := hide hR
  clear hR h7 h5 h3 h4 h0'
  generalize (w.drewN nq).setCell ⟨g, 1, none⟩ (.int .i64 ((k : Int) + 1)) = w2 at *
  rw [← Hx.out] at s2
  go_quiet (fail)
  go_wp2_with fail
  go_ret2
  exact ⟨rfl, HR.out.same (same_drewN _ _), grown_trans HG.out ((same_drewN _ _).grown _)⟩
theorem next_none (w : World) (g : Nat) (l : List Nat) (k e : Nat) (h : Rd w g l k e) (hk : e ≠ 0 ∨ l.length ≤ k) : Calls Try.prog 44 #[.pointer (some ⟨g, 0, none⟩)] w fun x w' => x = .returned (.tuple #[.int .u8 0, .bool false]) ∧ Same w w' := by
  have hlen := h.bytes
  obtain ⟨⟨h1, -⟩, h2, h3, h4, h5, h6, sv, h7, h8⟩ := h
  obtain ⟨a, cap, rfl, hc, _⟩ := h8.sl
  have hz3 : (0 : Int) ≤ k := by omega
  have hz4 : (l.length : Int) ≤ 140737488355328 := by omega
  by_cases h0 : e = 0
  · have hd : decide ((l.length : Int) ≤ (k : Int)) = true := by simp; omega
    have hz2 : (l.length : Int) ≤ (k : Int) := by omega
    subst h0
    have h0' : w.cell? ⟨g, 2, none⟩ = some (.int .i64 0) := h6
    clear h8 h6 hlen hk
    go_enter Try.func44, Try.ntmps44
    go_wp2_with (first | go_quiet (fail) | fail)
    go_ret2
    exact ⟨rfl, same_drewN w nq⟩
  · have hd : ((e : Int) != 0) = true := by simp; omega
    have hd2 : decide ((e : Int) = 0) = false := by simp; omega
    obtain ⟨E, hE⟩ : ∃ E : Int, E = e := ⟨_, rfl⟩
    rw [← hE] at h6 hd hd2
    clear h8 hlen hk h0 hE
    go_enter Try.func44, Try.ntmps44
    go_wp2_with (first | go_quiet (fail) | fail)
    go_ret2
    exact ⟨rfl, same_drewN w nq⟩
theorem refdone_any (w : World) (g : Nat) (l : List Nat) (k e : Nat) (h : Rd w g l k e) :
    Calls Try.prog 37 #[.pointer (some ⟨g, 0, none⟩)] w fun x w' => x = .returned (.int .i64 (doneE l k e : Nat)) ∧ ∃ q, w' = w.drewN q := by
  have hlen := h.bytes
  have H := hide h
  obtain ⟨⟨h1, -⟩, h2, h3, h4, h5, h6, sv, h7, h8⟩ := h
  obtain ⟨a, cap, rfl, hc, _⟩ := h8.sl
  have hz3 : (0 : Int) ≤ k := by omega
  have hz4 : (l.length : Int) ≤ 140737488355328 := by omega
  by_cases h0 : e = 0
  · subst h0
    have h0' : w.cell? ⟨g, 2, none⟩ = some (.int .i64 0) := h6
    by_cases hk : k < l.length
    · have hd : decide ((k : Int) < (l.length : Int)) = true := by simp; omega
      have hz2 : (k : Int) < (l.length : Int) := by omega
      have Hd : Hid (doneE l k 0 = 5) := by show _ = _; simp [doneE, hk]
      clear h8 h6 hlen hk
      go_enter Try.func37, Try.ntmps37
      go_wp2_with (first | go_quiet (fail) | fail)
      go_ret
      exact ⟨ret_i (by rw [Hd.out]; rfl), _, rfl⟩
    · have hd : decide ((k : Int) < (l.length : Int)) = false := by simp; omega
      have hz2 : ¬ (k : Int) < (l.length : Int) := by omega
      have Hd : Hid (doneE l k 0 = 0) := by show _ = _; simp [doneE, hk]
      clear h8 h6 hlen hk
      go_enter Try.func37, Try.ntmps37
      go_wp2_with (first | go_quiet (fail) | fail)
      go_ret
      exact ⟨ret_i (by rw [Hd.out]; rfl), _, rfl⟩
  · have Hd : Hid (doneE l k e = e) := by show _ = _; simp [doneE, h0]
    have hd : ((e : Int) == 0) = false := by simp; omega
    have hd2 : decide ((e : Int) = 0) = false := by simp; omega
    obtain ⟨E, hE⟩ : ∃ E : Int, E = e := ⟨_, rfl⟩
    have HE := hide hE
    rw [← hE] at h6 hd hd2
    clear h8 hlen h0 hE
    go_enter Try.func37, Try.ntmps37
    go_wp2_with (first | go_quiet (fail) | fail)
    go_ret
    exact ⟨ret_i (by rw [Hd.out]; exact HE.out), _, rfl⟩
end Go.Proofs.Ytaioniegggfcjaa
