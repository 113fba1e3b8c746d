/-
  The law's own 'reads': an item read by the program and by the document.
-/
import Derived.Test.YtaioniegggfcjaaRefBytes
import Derived.Test.YtaioniegggfcjaaSame
namespace Go.Proofs.Ytaioniegggfcjaa
open Go.RowKit
set_option linter.unusedVariables false
theorem left_q (w : World) (g : Nat) (l : List Nat) (k e : Nat) (h : Rd w g l k e) : Calls Try.prog 19 #[.pointer (some ⟨g, 0, none⟩)] w fun x w' => x = .returned (.int .i64 ((l.length - k : Nat) : Int)) ∧ ∃ q, w' = w.drewN q := by
  obtain ⟨⟨h1, -⟩, h2, h3, h4, h5, h6, sv, h7, h8⟩ := h
  obtain ⟨a, cap, rfl, hc, _⟩ := h8.sl
  have hl : (l.length : Int) ≤ 140737488355328 := by have := h8.len; omega
  clear h8
  have hk : (0 : Int) ≤ k := by omega
  have hkl : (k : Int) ≤ l.length := by omega
  have e1 : ((l.length - k : Nat) : Int) = (l.length : Int) - k := by omega
  have E1 := hide e1
  clear e1
  go_enter Try.func19, Try.ntmps19
  go_wp2_with (first | go_quiet (fail) | fail)
  go_ret
  exact ⟨ret_i E1.out.symm, nq, rfl⟩
theorem done_q (w : World) (g : Nat) (l : List Nat) (k e : Nat) (h : Rd w g l k e) :
    Calls Try.prog 18 #[.pointer (some ⟨g, 0, none⟩)] w fun x w' => x = .returned (.int .i64 (doneE l k e : Nat)) ∧ ∃ q, w' = w.drewN q := by
  have He := hide (err_any w g l k e h)
  have Hl := hide (left_q w g l k e h)
  have H := hide h
  have hB := h.bytes
  clear h
  by_cases h0 : e = 0
  · subst h0
    go_enter Try.func18, Try.ntmps18
    go_wp2_with fail
    refine He.out.mono ?_; rintro e wz ⟨rfl, hwz⟩; rw [hwz]; clear hwz wz
    go_wp2_with fail
    refine Hl.out.mono ?_; rintro e w1 ⟨rfl, q, hw1⟩
    have hs : Same w w1 := by rw [hw1]; exact same_drewN w q
    have He1 := hide (err_any w1 g l k 0 (H.out.same hs))
    have Hs : Hid (∃ q, w1 = w.drewN q) := ⟨q, hw1⟩
    clear hs hw1
    by_cases hk : k < l.length
    · have hz : (0 : Int) < ((l.length - k : Nat) : Int) := by omega
      have Hd : Hid (doneE l k 0 = 5) := by show _ = _; simp [doneE, hk]
      generalize ((l.length - k : Nat) : Int) = q at *
      clear hk hB
      go_wp2_with fail
      go_ret
      exact ⟨ret_i (by rw [Hd.out]; rfl), Hs.out⟩
    · have hz : ((l.length - k : Nat) : Int) = 0 := by omega
      have Hd : Hid (doneE l k 0 = 0) := by show _ = _; simp [doneE, hk]
      rw [hz]
      clear hk hB
      go_wp2_with fail
      refine He1.out.mono ?_; rintro e wz ⟨rfl, hwz⟩; rw [hwz]; clear hwz wz
      go_wp2_with fail
      go_ret
      exact ⟨ret_i (by rw [Hd.out]; rfl), Hs.out⟩
  · have Hd : Hid (doneE l k e = e) := by show _ = _; simp [doneE, h0]
    have hz : ((e : Int) == 0) = false := by simp; omega
    clear h0
    go_enter Try.func18, Try.ntmps18
    go_wp2_with fail
    refine He.out.mono ?_; rintro x wz ⟨rfl, hwz⟩; rw [hwz]; clear hwz wz
    go_wp2_with fail
    refine He.out.mono ?_; rintro x wz ⟨rfl, hwz⟩; rw [hwz]; clear hwz wz
    go_wp2_with fail
    go_ret
    exact ⟨ret_i (by rw [Hd.out]), 0, rfl⟩
theorem drewN_more (w : World) (a b : Nat) : ∃ c, (w.drewN a).drewN b = w.drewN c := ⟨a + b, World.drewN_drewN w a b⟩
/-- What 'reads' tells. -/
def ReadOn (w : World) (B gp gr : Nat) (l : List Nat) (e : Ending) (w' : World) : Prop :=
  e = .returned (.bool true) ∧ ∃ k' e', Rd w' gp l k' e' ∧ Rd w' gr l k' e' ∧ Below B w w'
theorem read_end {w W w1 w2 : World} {B gp gr : Nat} {l : List Nat} {k e k' e' : Nat} (hb : Below B w W) (hB : B ≤ W.heap.size) (hp : Rd W gp l k e) (hr : Rd W gr l k e) (hne : gp ≠ gr) (hBp : B ≤ gp) (hBr : B ≤ gr)
    (h1 : Rd w1 gp l k' e') (g1 : W.grownBy w1 (some gp)) (h2 : Rd w2 gr l k' e') (g2 : w1.grownBy w2 (some gr)) : Rd w2 gp l k' e' ∧ Rd w2 gr l k' e' ∧ Below B w w2 := by
  have hr1 : Rd w1 gr l k e := hr.apart hp g1 hne.symm
  refine ⟨h1.apart hr1 g2 hne, h2, ?_⟩
  have b1 := grown_below (base := B) g1 hB (fun k hk => by cases hk; exact hBp)
  have b2 := grown_below (base := B) g2 (Nat.le_trans hB b1.size) (fun k hk => by cases hk; exact hBr)
  exact hb.trans (b1.trans b2)
end Go.Proofs.Ytaioniegggfcjaa
