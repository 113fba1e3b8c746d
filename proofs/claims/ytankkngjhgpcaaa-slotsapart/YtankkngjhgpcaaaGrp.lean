/-
  The program's isGroup and pitchOf: loops over shapes.
-/
import Derived.Test.YtankkngjhgpcaaaSml
namespace Go.Proofs.Ytankkngjhgpcaaa
open Go.RowKit
set_option linter.unusedVariables false
set_option linter.unusedSimpArgs false
theorem all_more {L : List (Int × Int)} {k : Nat} {q : Int × Int} (h : (L.take k).all mayS = true) (hq : L[k]? = some q) (hm : mayS q = true) : (L.take (k + 1)).all mayS = true := by
  rw [List.take_add_one, hq, List.all_append, h]
  simp [hm]
theorem all_no {L : List (Int × Int)} {k : Nat} {q : Int × Int} (hq : L[k]? = some q) (hm : mayS q = false) : L.all mayS = false := by
  rw [List.all_eq_false]
  exact ⟨q, List.mem_of_getElem? hq, by simp [hm]⟩
theorem pitch_more {L : List (Int × Int)} {k : Nat} {q : Int × Int} (hq : L[k]? = some q) : pitchF (L.take (k + 1)) 0 = if pitchF (L.take k) 0 < q.2 then q.2 else pitchF (L.take k) 0 := by
  rw [List.take_add_one, hq, pitchF_append]; rfl
theorem len63 {P : List (Int × Int)} (h : P.length ≤ maxLen) : (0 : Int) ≤ (P.length : Nat) ∧ ((P.length : Nat) : Int) ≤ 9223372036854775807 := by
  have : P.length ≤ 9223372036854775807 := h
  omega
set_option maxRecDepth 100000 in
set_option maxHeartbeats 4000000 in
theorem isgroup_any (v : Value) (L : List (Int × Int)) (w : World) (hv : CeR w v L) : Calls Try.prog 16 #[v] w fun e w' => e = .returned (.bool (grp L)) ∧ Below w.heap.size w w' := by
  obtain ⟨a, cap, rfl, hcap, hmax⟩ := hv.slice
  obtain ⟨l0, l1⟩ := len63 hmax
  go_enter Try.func16, Try.ntmps16
  go_wp2_with fail
  go_loopw [7] (fun s7 wr => ∃ k : Nat, k ≤ L.length ∧ s7 = .int .i64 k ∧ (L.take k).all mayS = true ∧ Below w.heap.size w wr) (fun s7 _ => L.length - (intOf s7).toNat)
  case atStart => exact ⟨0, Nat.zero_le _, rfl, rfl, Below.refl _ _⟩
  case round =>
    obtain ⟨k, hk, rfl, hall, hB⟩ := hrel
    by_cases hlt : k < L.length
    · obtain ⟨q, hq⟩ : ∃ q, L[k]? = some q := ⟨_, List.getElem?_eq_getElem hlt⟩
      obtain ⟨g, o, hga, hgl, c0, c1⟩ := CeR.at (hv.kept hB) rfl hq
      subst hga
      have hki : (k : Int) < (L.length : Nat) := by omega
      obtain ⟨X, hX⟩ : ∃ X, wr.alloc (.cells #[.int .i64 q.1, .int .i64 q.2] 41) = X := ⟨_, rfl⟩
      have BX : Below wr.heap.size wr X := by rw [← hX]; exact box1 _ _
      have KX : Bk X wr.heap.size 41 [.int .i64 q.1, .int .i64 q.2] := by rw [← hX]; exact Bk.new _ _ _
      have HX := hide hX
      have a0 := KX.cell 0 _ rfl
      have a1 := KX.cell 1 _ rfl
      have HB := hide (bt hB BX)
      have hall := hide hall
      clear hX BX KX
      cases hm : mayS q
      · have hno : Hid (grp L = false) := by show _ = _; rw [grp, all_no hq hm]; rfl
        go_wp2_with (rw [HX.out])
        refine (shmay_is _ (c := q.1) (s := q.2) hm).mono ?_
        rintro e w1 ⟨rfl, hb1⟩
        have HB1 := hide (bt HB.out hb1)
        clear hb1 a0 a1 HX
        go_wp2_with fail
        go_ret
        exact ⟨ret_bool hno.out.symm, HB1.out⟩
      · have hal2 := hide (all_more hall.out hq hm)
        go_wp2_with (rw [HX.out])
        refine (shmay_is _ (c := q.1) (s := q.2) hm).mono ?_
        rintro e w1 ⟨rfl, hb1⟩
        have HB1 := hide (bt HB.out hb1)
        clear hb1 a0 a1 HX
        go_wp2_with fail
        go_roundw
        case rel => exact ⟨k + 1, by omega, by go_num, hal2.out, HB1.out⟩
        case measure => simp [intOf]; omega
    · obtain rfl : k = L.length := by omega
      rw [List.take_length] at hall
      have hki : ¬ ((L.length : Nat) : Int) < (L.length : Nat) := by omega
      by_cases h0 : 0 < L.length
      · have h0' : (0 : Int) < (L.length : Nat) := by omega
        have hg : Hid (grp L = true) := by show _ = _; rw [grp, hall]; simp [h0]
        go_wp2_with fail
        go_ret
        exact ⟨ret_bool hg.out.symm, hB⟩
      · have h0' : ¬ (0 : Int) < (L.length : Nat) := by omega
        have hg : Hid (grp L = false) := by show _ = _; rw [grp]; simp [h0]
        go_wp2_with fail
        go_ret
        exact ⟨ret_bool hg.out.symm, hB⟩
theorem isgroup_is {v : Value} {L : List (Int × Int)} {b : Bool} (w : World) (hv : CeR w v L) (h : grp L = b) : Calls Try.prog 16 #[v] w fun e w' => e = .returned (.bool b) ∧ Below w.heap.size w w' := by subst h; exact isgroup_any v L w hv
theorem run_max2 (x y : Int) : (if x < y then y else x) = max x y := by split <;> omega
set_option maxRecDepth 100000 in
set_option maxHeartbeats 4000000 in
theorem pitch_any (v : Value) (L : List (Int × Int)) (w : World) (hv : CeR w v L) : Calls Try.prog 18 #[v] w fun e w' => e = .returned (.int .i64 (pitchF L 0)) ∧ Below w.heap.size w w' := by
  obtain ⟨a, cap, rfl, hcap, hmax⟩ := hv.slice
  obtain ⟨l0, l1⟩ := len63 hmax
  go_enter Try.func18, Try.ntmps18
  go_wp2_with fail
  go_loopw [3, 8] (fun s3 s8 wr => ∃ k : Nat, k ≤ L.length ∧ s3 = .int .i64 (pitchF (L.take k) 0) ∧ s8 = .int .i64 k ∧ Below w.heap.size w wr) (fun _ s8 _ => L.length - (intOf s8).toNat)
  case atStart => exact ⟨0, Nat.zero_le _, rfl, rfl, Below.refl _ _⟩
  case round =>
    obtain ⟨k, hk, rfl, rfl, hB⟩ := hrel
    by_cases hlt : k < L.length
    · obtain ⟨q, hq⟩ : ∃ q, L[k]? = some q := ⟨_, List.getElem?_eq_getElem hlt⟩
      obtain ⟨g, o, hga, hgl, c0, c1⟩ := CeR.at (hv.kept hB) rfl hq
      subst hga
      have hki : (k : Int) < (L.length : Nat) := by omega
      obtain ⟨X, hX⟩ : ∃ X, wr.alloc (.cells #[.int .i64 q.1, .int .i64 q.2] 41) = X := ⟨_, rfl⟩
      have BX : Below wr.heap.size wr X := by rw [← hX]; exact box1 _ _
      have KX : Bk X wr.heap.size 41 [.int .i64 q.1, .int .i64 q.2] := by rw [← hX]; exact Bk.new _ _ _
      have HX := hide hX
      have a0 := KX.cell 0 _ rfl
      have a1 := KX.cell 1 _ rfl
      have HB := hide (bt hB BX)
      have hp := hide (pitch_more hq)
      clear hX BX KX
      generalize pitchF (L.take k) 0 = p at hp
      have hmx := run_max2 p q.2
      generalize hM : (if p < q.2 then q.2 else p) = M at hp hmx
      go_wp2_with (rw [HX.out])
      go_roundw
      case rel => exact ⟨k + 1, by omega, by rw [hp.out, hmx], by go_num, HB.out⟩
      case measure => simp [intOf]; omega
    · obtain rfl : k = L.length := by omega
      have hki : ¬ ((L.length : Nat) : Int) < (L.length : Nat) := by omega
      rw [List.take_length]
      go_wp2_with fail
      go_ret
      exact ⟨rfl, hB⟩
end Go.Proofs.Ytankkngjhgpcaaa
