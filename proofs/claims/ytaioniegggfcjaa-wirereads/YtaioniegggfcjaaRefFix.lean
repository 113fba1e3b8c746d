/-
  The document's answer: ReadFixed, ReadNumber.
-/
import Derived.Test.YtaioniegggfcjaaRefUv
namespace Go.Proofs.Ytaioniegggfcjaa
open Go.RowKit
set_option linter.unusedVariables false
set_option maxHeartbeats 1000000 in
theorem reffix_ok (w : World) (g : Nat) (l : List Nat) (k m : Nat) (h : Rd w g l k 0) (hm : 0 < m) (hm8 : m ≤ 8) :
    Calls Try.prog 34 #[.pointer (some ⟨g, 0, none⟩), .int .i64 (m : Nat)] w fun x w' => x = .returned (.int .u64 (fixN l k 0 m : Nat)) ∧ Rd w' g l (fixK l k 0 m) (fixE l k 0 m) ∧ w.grownBy w' (some g) := by
  have hB := h.bytes
  obtain ⟨r, hr⟩ : ∃ r, r = l.drop k := ⟨_, rfl⟩
  have hrE : restOf l k 0 = r := by rw [hr]; simp [restOf]
  have HN : Hid (r.length < m → fixN l k 0 m = 0 ∧ fixK l k 0 m = k ∧ fixE l k 0 m = 5) := fun h => by simp [fixN, fixK, fixE, hrE, h, first]
  have HS : Hid (m ≤ r.length → fixN l k 0 m = unle (r.take m) ∧ fixK l k 0 m = k + m ∧ fixE l k 0 m = 0) := fun h => by simp [fixN, fixK, fixE, hrE, Nat.not_lt.2 h]
  have hlen : r.length = l.length - k := by rw [hr]; simp
  have hdig : ∀ i, dig l (k + i) = dig r i := fun i => by rw [hr, dig_drop]
  have hsr : Small r := by rw [hr]; exact small_drop hB.1 k
  have H := hide h
  have HkL := hide hB.2.2
  have Hlen := hide hlen
  have Hdig := hide hdig
  have Hsr := hide hsr
  have hm1 : (m : Int) ≤ 8 := by omega
  obtain ⟨c1, c2, c3, c4⟩ := h.cells
  clear hr hlen hdig hsr h hB hrE
  go_enter Try.func34, Try.ntmps34
  go_wp2_with fail
  go_loopw [6, 7] (fun q i wr => ∃ j : Nat, i = .int .i64 (j : Nat) ∧ j ≤ m ∧ j ≤ r.length ∧ Rd wr g l (k + j) 0 ∧ w.grownBy wr (some g) ∧ q = .int .u64 (unle (r.take j) : Nat)) (fun _ i _ => m - (intOf i).toNat)
  case atStart => exact ⟨0, rfl, by omega, by omega, H.out, grown_refl _ _, rfl⟩
  case round =>
    obtain ⟨j, rfl, hjm, hjr, hRd, hG, rfl⟩ := hrel
    have HRd := hide hRd
    have HG := hide hG
    clear hRd hG
    by_cases hj : j < m
    · have hj1 : (j : Int) < m := by omega
      have hj2 : (j : Int) < 8 := by omega
      have hj3 : (0 : Int) ≤ j := by omega
      have Hj := hide hj
      by_cases hin : j < r.length
      · have hu := unle_lt (r.take j) (small_take Hsr.out j)
        rw [List.length_take, Nat.min_eq_left (by omega)] at hu
        have hor := or_byte j (unle (r.take j)) (dig r j) (by omega) hu (Hsr.out j)
        have hsn := unle_snoc (r.take j) (dig r j)
        rw [← take_snoc hin, List.length_take, Nat.min_eq_left (by omega)] at hsn
        rw [← hsn] at hor
        have hx := Hsr.out j
        have hq4 : IntKind.u64.wrap ((dig r j : Nat) : Int) = (dig r j : Nat) := by rw [IntKind.wrap_u64]; omega
        have Hnx := hide (next_there wr g l (k + j) HRd.out (by have := Hlen.out; omega))
        rw [Hdig.out j] at Hnx
        have Hor := hide hor
        have Hin := hide hin
        clear hor hsn hu hx hin hj
        generalize ((dig r j : Nat) : Int) = y at *
        go_wp2_with fail
        refine Hnx.out.mono ?_; rintro e w1 ⟨rfl, hR1, hG1⟩
        have HR1 := hide hR1
        have HG1 := hide (grown_trans HG.out hG1)
        clear hR1 hG1
        go_wp2_with fail
        go_roundw
        case rel => exact ⟨j + 1, rfl, by have := Hj.out; omega, by have := Hin.out; omega, HR1.out, HG1.out, congrArg _ Hor.out⟩
        case measure => simp [intOf]; have := Hj.out; omega
      · have hn := hide (HN.out (by omega))
        have Hnx := hide (next_none wr g l (k + j) 0 HRd.out (Or.inr (by have := Hlen.out; have := HkL.out; omega)))
        clear hin hj
        go_wp2_with fail
        refine Hnx.out.mono ?_; rintro e w1 ⟨rfl, hs1⟩
        have Hf := hide (wrong_any w1 g l (k + j) 0 5 k (HRd.out.same hs1) HkL.out)
        have HG1 := hide (grown_trans HG.out (hs1.grown (some g)))
        clear hs1
        go_wp2_with fail
        refine Hf.out.mono ?_; rintro x w3 ⟨rfl, hr3, hg3⟩
        have Hr3 := hide hr3
        have Hg3 := hide (grown_trans HG1.out hg3)
        clear hr3 hg3
        go_wp2_with fail
        go_ret
        exact ⟨ret_i (by rw [hn.out.1]; rfl), by rw [hn.out.2.1, hn.out.2.2]; exact Hr3.out, Hg3.out⟩
    · obtain rfl : j = m := by omega
      have hs := hide (HS.out hjr)
      have hj1 : ¬ (j : Int) < j := by omega
      clear hj
      go_wp2_with fail
      go_ret
      exact ⟨ret_i (by rw [hs.out.1]), by rw [hs.out.2.1, hs.out.2.2]; exact HRd.out, HG.out⟩
theorem reffix_bad (w : World) (g : Nat) (l : List Nat) (k e m : Nat) (h : Rd w g l k e) (h0 : e ≠ 0) (hm : 0 < m) (hm8 : m ≤ 8) :
    Calls Try.prog 34 #[.pointer (some ⟨g, 0, none⟩), .int .i64 (m : Nat)] w fun x w' => x = .returned (.int .u64 (fixN l k e m : Nat)) ∧ Rd w' g l (fixK l k e m) (fixE l k e m) ∧ w.grownBy w' (some g) := by
  have hr : restOf l k e = [] := by simp [restOf, h0]
  have Hs : Hid (fixN l k e m = 0 ∧ fixK l k e m = k ∧ fixE l k e m = e) := by
    show _ ∧ _ ∧ _
    simp [fixN, fixK, fixE, hr, hm, first, h0]
  have H := hide h
  have Hnx := hide (next_none w g l k e h (Or.inl h0))
  have HkL := hide h.bytes.2.2
  have H0 := hide h0
  have hm1 : (0 : Int) < m := by omega
  obtain ⟨c1, c2, c3, c4⟩ := h.cells
  clear h hr h0
  go_enter Try.func34, Try.ntmps34
  go_wp2_with fail
  go_loopw [6, 7] (fun q i wr => i = .int .i64 0 ∧ wr = w) (fun _ _ _ => 0)
  case atStart => exact ⟨rfl, rfl⟩
  case round =>
    obtain ⟨rfl, rfl⟩ := hrel
    go_wp2_with fail
    refine Hnx.out.mono ?_; rintro x w1 ⟨rfl, hs1⟩
    have Hf := hide (wrong_any w1 g l k e 5 k (H.out.same hs1) HkL.out)
    have HG1 := hide (hs1.grown (some g))
    clear hs1
    go_wp2_with fail
    refine Hf.out.mono ?_; rintro x w3 ⟨rfl, hr3, hg3⟩
    have Hr3 := hide hr3
    have Hg3 := hide (grown_trans HG1.out hg3)
    clear hr3 hg3
    go_wp2_with fail
    go_ret
    refine ⟨ret_i (by rw [Hs.out.1]; rfl), ?_, Hg3.out⟩
    rw [Hs.out.2.1, Hs.out.2.2]
    have := Hr3.out
    simp only [backK, first, if_neg H0.out] at this
    exact this
theorem reffix_any (w : World) (g : Nat) (l : List Nat) (k e m : Nat) (h : Rd w g l k e) (hm : 0 < m) (hm8 : m ≤ 8) :
    Calls Try.prog 34 #[.pointer (some ⟨g, 0, none⟩), .int .i64 (m : Nat)] w fun x w' => x = .returned (.int .u64 (fixN l k e m : Nat)) ∧ Rd w' g l (fixK l k e m) (fixE l k e m) ∧ w.grownBy w' (some g) := by
  by_cases h0 : e = 0
  · subst h0; exact reffix_ok w g l k m h hm hm8
  · exact reffix_bad w g l k e m h h0 hm hm8
theorem Rd.err {w : World} {g : Nat} {l : List Nat} {k e : Nat} (h : Rd w g l k e) : w.cell? ⟨g, 2, none⟩ = some (.int .i64 (e : Nat)) := h.2.2.2.2.2.1
/-- What Number's answer is, out of what ReadUvarint's is. -/
theorem no_parts (l : List Nat) (k e : Nat) (most : Int) (hs : Small l) :
    (bad l k e ≠ 0 ∧ noN l k e most = 0 ∧ noK l k e most = stand l k e ∧ noE l k e most = bad l k e) ∨
    (bad l k e = 0 ∧ e = 0 ∧ ((most < 0 ∨ most < (numN (restOf l k e) : Int)) → noN l k e most = 0 ∧ noK l k e most = k ∧ noE l k e most = 3) ∧
      (¬ (most < 0 ∨ most < (numN (restOf l k e) : Int)) → noN l k e most = numN (restOf l k e) ∧ noK l k e most = stand l k e ∧ noE l k e most = 0)) := by
  unfold bad noN noK noE stand
  cases hd : dec 0 (restOf l k e) with
  | none =>
    rw [(num_none hd).2, cnt_none most hd]
    left
    by_cases h0 : e = 0
    · subst h0; simp [first]
    · simp [first, h0]
  | some p =>
    obtain ⟨n, j⟩ := p
    have h0 : e = 0 := by
      rcases Nat.eq_zero_or_pos e with h | h
      · exact h
      · have hr : restOf l k e = [] := by simp [restOf]; omega
        rw [hr] at hd
        cases hd
    have hj : j ≠ 0 := fun h => by
      have := numK_zero (small_rest hs k e) (by rw [(num_some hd).2]; exact h)
      rw [this] at hd; cases hd
    right
    rw [(num_some hd).1, (num_some hd).2, cnt_some most hd, if_neg hj]
    refine ⟨h0, h0, fun h => ?_, fun h => ?_⟩
    · rw [if_pos h]; subst h0; simp [first]
    · rw [if_neg h]; subst h0; simp
set_option maxHeartbeats 1000000 in
theorem refno_any (w : World) (g : Nat) (l : List Nat) (k e : Nat) (most : Int) (h : Rd w g l k e) (hm : -9223372036854775808 ≤ most ∧ most ≤ 9223372036854775807) :
    Calls Try.prog 35 #[.pointer (some ⟨g, 0, none⟩), .int .i64 most] w fun x w' => x = .returned (.int .i64 (noN l k e most : Nat)) ∧ Rd w' g l (noK l k e most) (noE l k e most) ∧ w.grownBy w' (some g) := by
  have hB := h.bytes
  have hlt := numN_lt (small_rest hB.1 k e)
  have H := hide (refruv_any w g l k e h)
  obtain ⟨c1, c2, c3, c4⟩ := h.cells
  have HkL := hide hB.2.2
  rcases no_parts l k e most hB.1 with ⟨hb, hN, hK, hE⟩ | ⟨hb, he, hbig, hfit⟩
  · have Hs := hide (And.intro hN (And.intro hK hE))
    have hz : ((bad l k e : Int) != 0) = true := by simp; omega
    generalize ((numN (restOf l k e) : Nat) : Int) = n at *
    clear h hN hK hE hb hlt hB
    go_enter Try.func35, Try.ntmps35
    go_wp2_with fail
    refine H.out.mono ?_; rintro x w1 ⟨rfl, hr1, hg1⟩
    have ce := hr1.err
    have Hr1 := hide hr1
    have Hg1 := hide hg1
    clear hr1 hg1
    go_wp2_with fail
    go_ret
    refine ⟨ret_i (by rw [Hs.out.1]; rfl), ?_, Hg1.out⟩
    rw [Hs.out.2.1, Hs.out.2.2]; exact Hr1.out
  · rw [hb] at H
    by_cases hbg : most < 0 ∨ most < (numN (restOf l k e) : Int)
    · have Hs := hide (hbig hbg)
      have hw : 0 ≤ most → IntKind.u64.wrap most = most := fun h => by rw [IntKind.wrap_u64]; omega
      generalize ((numN (restOf l k e) : Nat) : Int) = n at *
      by_cases hm0 : most < 0
      · clear h hbig hfit hb hlt hB hbg hw
        go_enter Try.func35, Try.ntmps35
        go_wp2_with fail
        refine H.out.mono ?_; rintro x w1 ⟨rfl, hr1, hg1⟩
        have ce : w1.cell? ⟨g, 2, none⟩ = some (.int .i64 0) := hr1.err
        have Hf := hide (wrong_any w1 g l _ 0 3 k hr1 HkL.out)
        have Hg1 := hide hg1
        clear hr1 hg1
        go_wp2_with fail
        refine Hf.out.mono ?_; rintro x w3 ⟨rfl, hr3, hg3⟩
        have Hr3 := hide hr3
        have Hg3 := hide (grown_trans Hg1.out hg3)
        clear hr3 hg3
        go_wp2_with fail
        go_ret
        refine ⟨ret_i (by rw [Hs.out.1]; rfl), ?_, Hg3.out⟩
        rw [Hs.out.2.1, Hs.out.2.2]; exact Hr3.out
      · have hw2 := hw (by omega)
        have hn : most < n := by omega
        clear h hbig hfit hb hlt hB hbg hw
        go_enter Try.func35, Try.ntmps35
        go_wp2_with fail
        refine H.out.mono ?_; rintro x w1 ⟨rfl, hr1, hg1⟩
        have ce : w1.cell? ⟨g, 2, none⟩ = some (.int .i64 0) := hr1.err
        have Hf := hide (wrong_any w1 g l _ 0 3 k hr1 HkL.out)
        have Hg1 := hide hg1
        clear hr1 hg1
        go_wp2_with fail
        refine Hf.out.mono ?_; rintro x w3 ⟨rfl, hr3, hg3⟩
        have Hr3 := hide hr3
        have Hg3 := hide (grown_trans Hg1.out hg3)
        clear hr3 hg3
        go_wp2_with fail
        go_ret
        refine ⟨ret_i (by rw [Hs.out.1]; rfl), ?_, Hg3.out⟩
        rw [Hs.out.2.1, Hs.out.2.2]; exact Hr3.out
    · have hs := hfit hbg
      have hw2 : IntKind.u64.wrap most = most := by rw [IntKind.wrap_u64]; omega
      have hm0 : ¬ most < 0 := by omega
      have hn : ¬ most < (numN (restOf l k e) : Int) := by omega
      have hn2 : ((numN (restOf l k e) : Nat) : Int) ≤ 9223372036854775807 := by omega
      have hn3 : 0 ≤ ((numN (restOf l k e) : Nat) : Int) := by omega
      have hs1 : ((noN l k e most : Nat) : Int) = ((numN (restOf l k e) : Nat) : Int) := by rw [hs.1]
      have Hs := hide hs.2
      generalize ((numN (restOf l k e) : Nat) : Int) = n at *
      have Hs1 := hide hs1
      clear h hbig hfit hb hlt hB hbg hs hs1
      go_enter Try.func35, Try.ntmps35
      go_wp2_with fail
      refine H.out.mono ?_; rintro x w1 ⟨rfl, hr1, hg1⟩
      have ce : w1.cell? ⟨g, 2, none⟩ = some (.int .i64 0) := hr1.err
      have Hr1 := hide hr1
      have Hg1 := hide hg1
      clear hr1 hg1
      go_wp2_with fail
      go_ret
      refine ⟨ret_i Hs1.out.symm, ?_, Hg1.out⟩
      rw [Hs.out.1, Hs.out.2]; exact Hr1.out
end Go.Proofs.Ytaioniegggfcjaa
