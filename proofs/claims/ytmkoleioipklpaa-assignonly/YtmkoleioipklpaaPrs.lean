/-
  All pairs, unit by unit.
-/
import Derived.Test.YtmkoleioipklpaaPrv
import Derived.Test.YtmkoleioipklpaaAs
namespace Go.Proofs.Ytmkoleioipklpaa
open Go.RowKit
set_option linter.unusedVariables false
set_option linter.unusedSimpArgs false
attribute [local go_sem] Oper.semAt_some
def allU (n u : Nat) : List (Nat × Nat) := (List.range u).flatMap fun v => (List.range n).map fun p => (v, p)
def rowU (u p : Nat) : List (Nat × Nat) := (List.range p).map fun q => (u, q)
theorem allU_zero (n : Nat) : allU n 0 = [] := rfl
theorem rowU_zero (u : Nat) : rowU u 0 = [] := rfl
theorem allU_succ (n u : Nat) : allU n (u + 1) = allU n u ++ rowU u n := by
  unfold allU rowU
  rw [List.range_succ, List.flatMap_append]
  simp
theorem rowU_succ (u p : Nat) : rowU u (p + 1) = rowU u p ++ [(u, p)] := by
  unfold rowU
  rw [List.range_succ, List.map_append]
  rfl
theorem allU_all (n : Nat) : allU n n = allP n := rfl
theorem rowU_len (u p : Nat) : (rowU u p).length = p := by simp [rowU]
theorem allU_len (n u : Nat) : (allU n u).length = u * n := by
  induction u with
  | zero => simp [allU]
  | succ u ih => rw [allU_succ, List.length_append, ih, rowU_len, Nat.succ_mul]
theorem allP_len (n : Nat) : (allP n).length = n * n := allU_len n n
def PrE (w : World) (n : Nat) (e : Ending) (w' : World) : Prop :=
  ∃ a c, e = .returned (.slice a (n * n) c) ∧ Pn w' (.slice a (n * n) c) (allP n) ∧ (∀ g, (Value.slice a (n * n) c).ownBlock = some g → w.heap.size ≤ g) ∧ Below w.heap.size w w'
theorem Pn.len {w : World} {a : Option Addr} {m c : Nat} {L : List (Nat × Nat)} (h : Pn w (.slice a m c) L) : m = L.length := by
  rcases h.slice with ⟨e, rfl⟩ | ⟨g, cap, e, -⟩
  · cases e; rfl
  · cases e; rfl
set_option maxRecDepth 100000 in
set_option maxHeartbeats 4000000 in
theorem pairsof_is (n : Nat) (hn : n ≤ 64) (w : World) : Calls Try.prog 17 #[.int .i64 (n : Nat)] w (PrE w n) := by
  have hsq : n * n ≤ 4096 := Nat.mul_le_mul hn hn
  obtain ⟨m, hm⟩ : ∃ m, n * n = m := ⟨_, rfl⟩
  have hwr : IntKind.i64.wrap ((n : Int) * (n : Int)) = (m : Nat) := by rw [← Int.natCast_mul, hm]; exact IntWalk.i64_in _ (by omega)
  rw [hm] at hsq
  obtain ⟨W0, hr0, hk0, hb0, hz0⟩ := run_make36 w m hsq
  have HM := hide hm
  have HK0 := hide (And.intro hk0 hb0)
  have hn63 : ((n : Nat) : Int) ≤ 64 := by omega
  clear hk0 hb0 hz0
  go_enter Try.func17, Try.ntmps17
  go_wp2_with (first | rw [hwr] | rw [hr0])
  go_loopw [3, 11] (fun s3 s11 wr => ∃ k : Nat, k ≤ n ∧ s11 = .int .i64 k ∧ ∃ a l c', s3 = .slice a l c' ∧ Pn wr s3 (allU n k) ∧ (∀ g, s3.ownBlock = some g → w.heap.size ≤ g) ∧ Below w.heap.size w wr) (fun _ s11 _ => n - (intOf s11).toNat)
  case atStart => exact ⟨0, Nat.zero_le _, rfl, _, _, _, rfl, HK0.out.1, (fun g e => by cases e; exact Nat.le_refl _), HK0.out.2⟩
  case round =>
    obtain ⟨k, hk, rfl, a, l, c', rfl, hK, ho, hB⟩ := hrel
    by_cases hlt : k < n
    · have hki : (k : Int) < (n : Nat) := by omega
      have HO := hide (And.intro hK (And.intro ho hB))
      clear hK ho hB
      go_wp2_with fail
      go_loopw [3, 15] (fun s3 s15 wr => ∃ p : Nat, p ≤ n ∧ s15 = .int .i64 p ∧ ∃ a l c', s3 = .slice a l c' ∧ Pn wr s3 (allU n k ++ rowU k p) ∧ (∀ g, s3.ownBlock = some g → w.heap.size ≤ g) ∧ Below w.heap.size w wr) (fun _ s15 _ => n - (intOf s15).toNat)
      case atStart => exact ⟨0, Nat.zero_le _, rfl, _, _, _, rfl, by rw [rowU_zero, List.append_nil]; exact HO.out.1, HO.out.2⟩
      case round =>
        obtain ⟨p, hp, rfl, a2, l2, c2, rfl, hK, ho, hB⟩ := hrel
        clear HO
        by_cases hlt2 : p < n
        · have hpi : (p : Int) < (n : Nat) := by omega
          obtain ⟨Z, hZ⟩ : ∃ Z, wr.alloc (.cells #[.int .i64 (k : Nat), .int .i64 (p : Nat)] 40) = Z := ⟨_, rfl⟩
          have BZ : Below wr.heap.size wr Z := by rw [← hZ]; exact box1 _ _
          have KZ : Pn Z (.slice (some ⟨wr.heap.size, 0, none⟩) 1 1) [(k, p)] := by rw [← hZ]; exact pr_one k p wr
          have hlen : (allU n k ++ rowU k p).length ≤ 10000 := by
            rw [List.length_append, allU_len, rowU_len]
            have : k * n ≤ 64 * 64 := Nat.mul_le_mul (by omega) hn
            omega
          obtain ⟨v', A, r1, r2, r3, r4⟩ := Pn.more (Rw.upto hK BZ) (Rw.rd prCs_len KZ KZ.cap) (by simp only [List.length_singleton]; omega) 36
          obtain ⟨a', n', c'', rfl⟩ := r2.shape
          have hsz : w.heap.size ≤ wr.heap.size := hB.size
          have HA : Hid (Pn A (.slice a' n' c'') (allU n k ++ rowU k (p + 1)) ∧ (∀ g, (Value.slice a' n' c'').ownBlock = some g → w.heap.size ≤ g) ∧ Below w.heap.size w A) :=
            ⟨by rw [rowU_succ, ← List.append_assoc]; exact r2, fun g hg => by
              rcases r3 with e | e
              · rw [e] at hg; exact ho g hg
              · rw [e] at hg
                cases hg
                have := BZ.size
                omega, hB.trans ((BZ.mono hsz).trans (r4.below (B := w.heap.size) (fun g hg => ho g hg) (Nat.le_trans hsz BZ.size)))⟩
          have HR := hide r1
          clear hK ho hB BZ KZ r1 r2 r3 r4 hlen hsz
          go_wp2_with (first | (at_builtin; refine wpList_app_run rfl _ _ 36 rfl _ _ rfl rfl HR.out ?_) | fail)
          go_roundw
          case rel => exact ⟨p + 1, by omega, by go_num, _, _, _, rfl, HA.out⟩
          case measure => simp [intOf]; omega
        · obtain rfl : p = n := by omega
          have hpi : ¬ ((p : Nat) : Int) < (p : Nat) := by omega
          have HN := hide (And.intro hK (And.intro ho hB))
          clear hK ho hB
          go_wp2_with fail
          go_roundw
          case rel => exact ⟨k + 1, by omega, by go_num, _, _, _, rfl, by rw [allU_succ]; exact HN.out.1, HN.out.2⟩
          case measure => simp [intOf]; omega
    · obtain rfl : k = n := by omega
      have hki : ¬ ((k : Nat) : Int) < (k : Nat) := by omega
      have HN := hide (And.intro hK (And.intro ho hB))
      clear hK ho hB
      go_wp2_with fail
      go_ret
      obtain ⟨h1, h2, h3⟩ := HN.out
      have e := h1.len
      rw [allU_len] at e
      subst e
      exact ⟨_, _, rfl, h1, h2, h3⟩
end Go.Proofs.Ytmkoleioipklpaa
