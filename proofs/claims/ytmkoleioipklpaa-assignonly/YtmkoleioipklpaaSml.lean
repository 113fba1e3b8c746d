/-
  Whether cells may be those of units or places; by which error units and places are refused, on both sides.
-/
import Derived.Test.YtmkoleioipklpaaRd
namespace Go.Proofs.Ytmkoleioipklpaa
open Go.RowKit
set_option linter.unusedVariables false
set_option linter.unusedSimpArgs false
abbrev pr (c s : Int) : Value := .agg #[.int .i64 c, .int .i64 s]
def spot (n : Int) : Bool := decide (-128 ≤ n ∧ n ≤ 256)
theorem spot_not (n : Int) : spot n = false ↔ ¬ (-128 ≤ n ∧ n ≤ 256) := by simp only [spot, decide_eq_false_iff_not]
theorem spot_iff (n : Int) : spot n = true ↔ (-128 ≤ n ∧ n ≤ 256) := by simp [spot]
def plcB (x y : Int) : Bool := spot x && spot y
def ars (L : List (Int × Int)) : Bool := L.all (fun q => plcB q.1 q.2)
/-- The error by which units and places are refused; 0: none. -/
def rfs (U P : List (Int × Int)) : Int := if 64 < U.length then 3 else if (decide (P.length = U.length) && (ars U && ars P)) = true then 0 else 1
theorem ars_more {L : List (Int × Int)} {k : Nat} {q : Int × Int} (h : ars (L.take k) = true) (hq : L[k]? = some q) (hm : plcB q.1 q.2 = true) : ars (L.take (k + 1)) = true := by
  unfold ars at *
  rw [List.take_add_one, hq, List.all_append, h]
  simp [hm]
theorem ars_no {L : List (Int × Int)} {k : Nat} {q : Int × Int} (hq : L[k]? = some q) (hm : plcB q.1 q.2 = false) : ars L = false := by
  unfold ars
  rw [List.all_eq_false]
  exact ⟨q, List.mem_of_getElem? hq, by simp [hm]⟩
theorem ars_at {L : List (Int × Int)} {k : Nat} {q : Int × Int} (h : ars L = true) (hq : L[k]? = some q) : (-128 ≤ q.1 ∧ q.1 ≤ 256) ∧ (-128 ≤ q.2 ∧ q.2 ≤ 256) := by
  have := List.all_eq_true.1 h q (List.mem_of_getElem? hq)
  simp only [plcB, Bool.and_eq_true, spot_iff] at this
  exact this
theorem rfs_ok {U P : List (Int × Int)} (h : rfs U P = 0) : U.length ≤ 64 ∧ P.length = U.length ∧ ars U = true ∧ ars P = true := by
  unfold rfs at h
  split at h
  · cases h
  · split at h
    · rename_i h1 h2
      simp only [Bool.and_eq_true, decide_eq_true_eq] at h2
      exact ⟨by omega, h2.1, h2.2.1, h2.2.2⟩
    · cases h
theorem len63 {P : List (Int × Int)} (h : P.length ≤ maxLen) : (0 : Int) ≤ (P.length : Nat) ∧ ((P.length : Nat) : Int) ≤ 9223372036854775807 := by
  have : P.length ≤ 9223372036854775807 := h
  omega
set_option maxHeartbeats 400000 in
theorem isspot_any (n : Int) (w : World) : Calls Try.prog 39 #[.int .i64 n] w fun e w' => e = .returned (.bool (spot n)) ∧ w' = w := by
  by_cases h1 : -128 ≤ n
  · by_cases h2 : n ≤ 256
    · go_enter Try.func39, Try.ntmps39
      go_wp2
      go_ret
      exact ⟨ret_bool (by simp [spot, h1, h2]), rfl⟩
    · go_enter Try.func39, Try.ntmps39
      go_wp2
      go_ret
      exact ⟨ret_bool (by simp [spot, h1, h2]), rfl⟩
  · go_enter Try.func39, Try.ntmps39
    go_wp2
    go_ret
    exact ⟨ret_bool (by rw [eq_comm, spot_not]; omega), rfl⟩
theorem isspot_is {n : Int} {b : Bool} (w : World) (h : spot n = b) : Calls Try.prog 39 #[.int .i64 n] w fun e w' => e = .returned (.bool b) ∧ w' = w := by subst h; exact isspot_any n w
set_option maxHeartbeats 1000000 in
theorem refnear_is (x y : Int) (w : World) : Calls Try.prog 26 #[pr x y] w fun e w' => e = .returned (.bool (plcB x y)) ∧ Below w.heap.size w w' := by
  by_cases h0 : -128 ≤ x
  · by_cases h3 : x ≤ 256
    · by_cases h1 : -128 ≤ y
      · by_cases h2 : y ≤ 256
        · go_enter Try.func26, Try.ntmps26
          go_wp2_with fail
          go_ret
          exact ⟨ret_bool (by simp [plcB, spot, h0, h1, h2, h3]), box1 _ _⟩
        · go_enter Try.func26, Try.ntmps26
          go_wp2_with fail
          go_ret
          exact ⟨ret_bool (by simp [plcB, spot, h0, h1, h2, h3]), box1 _ _⟩
      · go_enter Try.func26, Try.ntmps26
        go_wp2_with fail
        go_ret
        exact ⟨ret_bool (by simp [plcB, spot, h0, h3]; omega), box1 _ _⟩
    · go_enter Try.func26, Try.ntmps26
      go_wp2_with fail
      go_ret
      exact ⟨ret_bool (by simp [plcB, spot, h0, h3]; omega), box1 _ _⟩
  · go_enter Try.func26, Try.ntmps26
    go_wp2_with fail
    go_ret
    exact ⟨ret_bool (by simp [plcB, spot]; omega), box1 _ _⟩
theorem near17_is {x y : Int} {b : Bool} (w : World) (h : plcB x y = b) : Calls Try.prog 26 #[pr x y] w fun e w' => e = .returned (.bool b) ∧ Below w.heap.size w w' := by subst h; exact refnear_is x y w
set_option maxRecDepth 100000 in
set_option maxHeartbeats 4000000 in
theorem arespots_any (v : Value) (L : List (Int × Int)) (w : World) (hv : CeR w v L) : Calls Try.prog 27 #[v] w fun e w' => e = .returned (.bool (ars L)) ∧ Below w.heap.size w w' := by
  obtain ⟨a, cap, rfl, hcap, hmax⟩ := hv.slice
  obtain ⟨l0, l1⟩ := len63 hmax
  go_enter Try.func27, Try.ntmps27
  go_wp2_with fail
  go_loopw [7] (fun s7 wr => ∃ k : Nat, k ≤ L.length ∧ s7 = .int .i64 k ∧ ars (L.take k) = true ∧ Below w.heap.size w wr) (fun s7 _ => L.length - (intOf s7).toNat)
  case atStart => exact ⟨0, Nat.zero_le _, rfl, rfl, Below.refl _ _⟩
  case round =>
    obtain ⟨k, hk, rfl, hall, hB⟩ := hrel
    by_cases hlt : k < L.length
    · obtain ⟨q, hq⟩ : ∃ q, L[k]? = some q := ⟨_, List.getElem?_eq_getElem hlt⟩
      obtain ⟨g, o, hga, hgl, c0, c1⟩ := CeR.at (hv.kept hB) rfl hq
      subst hga
      have hki : (k : Int) < (L.length : Nat) := by omega
      obtain ⟨X, hX⟩ : ∃ X, wr.alloc (.cells #[.int .i64 q.1, .int .i64 q.2] 35) = X := ⟨_, rfl⟩
      have BX : Below wr.heap.size wr X := by rw [← hX]; exact box1 _ _
      have KX : Bk X wr.heap.size 35 [.int .i64 q.1, .int .i64 q.2] := by rw [← hX]; exact Bk.new _ _ _
      have HX := hide hX
      have a0 := KX.cell 0 _ rfl
      have a1 := KX.cell 1 _ rfl
      have HB := hide (bt hB BX)
      have hall := hide hall
      clear hX BX KX
      cases hs1 : spot q.1
      · have hno : Hid (ars L = false) := ars_no hq (by simp [plcB, hs1])
        go_wp2_with (first | rw [HX.out] | (go_at_call 39; refine (isspot_is _ hs1).mono ?_; rintro e w1 ⟨rfl, rfl⟩))
        go_ret
        exact ⟨ret_bool hno.out.symm, HB.out⟩
      · cases hs2 : spot q.2
        · have hno : Hid (ars L = false) := ars_no hq (by simp [plcB, hs2])
          go_wp2_with (first | rw [HX.out] | (go_at_call_of 39 q.1; refine (isspot_is _ hs1).mono ?_; rintro e w1 ⟨rfl, rfl⟩) | (go_at_call 39; refine (isspot_is _ hs2).mono ?_; rintro e w1 ⟨rfl, rfl⟩))
          go_ret
          exact ⟨ret_bool hno.out.symm, HB.out⟩
        · have hal2 := hide (ars_more hall.out hq (by simp [plcB, hs1, hs2]))
          go_wp2_with (first | rw [HX.out] | (go_at_call_of 39 q.1; refine (isspot_is _ hs1).mono ?_; rintro e w1 ⟨rfl, rfl⟩) | (go_at_call 39; refine (isspot_is _ hs2).mono ?_; rintro e w1 ⟨rfl, rfl⟩))
          go_roundw
          case rel => exact ⟨k + 1, by omega, by go_num, hal2.out, HB.out⟩
          case measure => simp [intOf]; omega
    · obtain rfl : k = L.length := by omega
      rw [List.take_length] at hall
      have hki : ¬ ((L.length : Nat) : Int) < (L.length : Nat) := by omega
      have hall := hide hall
      go_wp2_with fail
      go_ret
      exact ⟨rfl, hB⟩
theorem arespots_is {v : Value} {L : List (Int × Int)} {b : Bool} (w : World) (hv : CeR w v L) (h : ars L = b) : Calls Try.prog 27 #[v] w fun e w' => e = .returned (.bool b) ∧ Below w.heap.size w w' := by subst h; exact arespots_any v L w hv
set_option maxRecDepth 100000 in
set_option maxHeartbeats 4000000 in
/-- The program's refusal. -/
theorem refusal_any (u p : Value) (U P : List (Int × Int)) (w : World) (hu : CeR w u U) (hp : CeR w p P) : Calls Try.prog 16 #[u, p] w fun e w' => e = .returned (.int .i64 (rfs U P)) ∧ Below w.heap.size w w' := by
  obtain ⟨a, cap, rfl, hcap, hmax⟩ := hu.slice
  obtain ⟨a2, cap2, rfl, hcap2, hmax2⟩ := hp.slice
  obtain ⟨l0, l1⟩ := len63 hmax
  obtain ⟨k0, k1⟩ := len63 hmax2
  by_cases hl : 64 < U.length
  · have hl' : (64 : Int) < (U.length : Nat) := by omega
    go_enter Try.func16, Try.ntmps16
    go_wp2_with fail
    go_ret
    exact ⟨ret_int (by simp [rfs, hl]), Below.refl _ _⟩
  have hl' : ¬ (64 : Int) < (U.length : Nat) := by omega
  by_cases he : P.length = U.length
  case neg =>
    have he' : ¬ ((P.length : Nat) : Int) = (U.length : Nat) := by omega
    go_enter Try.func16, Try.ntmps16
    go_wp2_with fail
    go_ret
    exact ⟨ret_int (by simp [rfs, hl, he]), Below.refl _ _⟩
  have HU := fun (b : Bool) (h : ars U = b) => hide (arespots_is w hu h)
  rw [he] at hp k0 k1 hcap2 hmax2 ⊢
  cases h1 : ars U
  · have HU := HU _ h1
    go_enter Try.func16, Try.ntmps16
    go_wp2_with fail
    refine HU.out.mono ?_
    rintro e w1 ⟨rfl, hb1⟩
    have HB := hide hb1
    clear hb1
    go_wp2_with fail
    go_ret
    exact ⟨ret_int (by simp [rfs, hl, he, h1]), HB.out⟩
  · have HU := HU _ h1
    have HP := fun (b : Bool) (w1 : World) (hb : Below w.heap.size w w1) (h : ars P = b) => hide (arespots_is w1 (hp.kept hb) h)
    cases h2 : ars P
    all_goals
      have HP := fun w1 hb => HP _ w1 hb h2
      have HP := hide HP
      clear hu hp
      go_enter Try.func16, Try.ntmps16
      go_wp2_with fail
      refine HU.out.mono ?_
      rintro e w1 ⟨rfl, hb1⟩
      have HP := HP.out w1 hb1
      have HB := hide hb1
      clear hb1
      go_wp2_with fail
      refine HP.out.mono ?_
      rintro e w2 ⟨rfl, hb2⟩
      have HB := hide (bt HB.out hb2)
      clear hb2
      go_wp2_with fail
      go_ret
      exact ⟨ret_int (by simp [rfs, hl, he, h1, h2]), HB.out⟩
set_option maxRecDepth 100000 in
set_option maxHeartbeats 4000000 in
/-- The document's. -/
theorem refuses_any (u p : Value) (U P : List (Int × Int)) (w : World) (hu : CeR w u U) (hp : CeR w p P) : Calls Try.prog 15 #[u, p] w fun e w' => e = .returned (.int .i64 (rfs U P)) ∧ Below w.heap.size w w' := by
  obtain ⟨a, cap, rfl, hcap, hmax⟩ := hu.slice
  obtain ⟨a2, cap2, rfl, hcap2, hmax2⟩ := hp.slice
  obtain ⟨l0, l1⟩ := len63 hmax
  obtain ⟨k0, k1⟩ := len63 hmax2
  by_cases hl : 64 < U.length
  · have hl' : (64 : Int) < (U.length : Nat) := by omega
    go_enter Try.func15, Try.ntmps15
    go_wp2_with fail
    go_ret
    exact ⟨ret_int (by simp [rfs, hl]), Below.refl _ _⟩
  have hl' : ¬ (64 : Int) < (U.length : Nat) := by omega
  by_cases he : P.length = U.length
  case neg =>
    have he' : ¬ ((U.length : Nat) : Int) = (P.length : Nat) := by omega
    go_enter Try.func15, Try.ntmps15
    go_wp2_with fail
    go_ret
    exact ⟨ret_int (by simp [rfs, hl, he]), Below.refl _ _⟩
  have hR : rfs U P = if (ars U && ars P) = true then 0 else 1 := by simp [rfs, hl, he]
  rw [hR]
  obtain ⟨z, hz⟩ : ∃ z, (if (ars U && ars P) = true then (0 : Int) else 1) = z := ⟨_, rfl⟩
  rw [hz]
  have Hz := hide hz
  clear hz
  obtain ⟨n, hn⟩ : ∃ n, U.length = n := ⟨_, rfl⟩
  have hen : P.length = n := he.trans hn
  rw [hn] at hu hcap l0 l1 hl hl' ⊢
  rw [hen] at hp hcap2 k0 k1 ⊢
  have Hn := hide hn
  have He := hide hen
  clear hn hen he hR hmax hmax2
  go_enter Try.func15, Try.ntmps15
  go_wp2_with fail
  go_loopw [5] (fun s5 wr => ∃ k : Nat, k ≤ n ∧ s5 = .int .i64 k ∧ ars (U.take k) = true ∧ ars (P.take k) = true ∧ Below w.heap.size w wr) (fun s5 _ => n - (intOf s5).toNat)
  case atStart => exact ⟨0, Nat.zero_le _, rfl, rfl, rfl, Below.refl _ _⟩
  case round =>
    obtain ⟨k, hk, rfl, hall, hall2, hB⟩ := hrel
    by_cases hlt : k < n
    · obtain ⟨q, hq⟩ : ∃ q, U[k]? = some q := ⟨_, List.getElem?_eq_getElem (by rw [Hn.out]; exact hlt)⟩
      obtain ⟨r, hr⟩ : ∃ r, P[k]? = some r := ⟨_, List.getElem?_eq_getElem (by rw [He.out]; exact hlt)⟩
      obtain ⟨g, o, hga, hgl, c0, c1⟩ := CeR.at (hu.kept hB) rfl hq
      subst hga
      have hki : (k : Int) < (n : Nat) := by omega
      have hpk := hide (hp.kept hB)
      have HB := hide hB
      have hall := hide (And.intro hall hall2)
      clear hB hall2
      cases h1 : plcB q.1 q.2
      · have hno := hide (ars_no hq h1)
        go_wp2_with fail
        refine (near17_is _ (x := q.1) (y := q.2) h1).mono ?_
        rintro e w1 ⟨rfl, hb1⟩
        have HB1 := hide (bt HB.out hb1)
        clear hb1 c0 c1
        go_wp2_with fail
        go_ret
        exact ⟨ret_int (by rw [← Hz.out, hno.out]; rfl), HB1.out⟩
      · cases h2 : plcB r.1 r.2
        · have hno := hide (ars_no hr h2)
          go_wp2_with fail
          refine (near17_is _ (x := q.1) (y := q.2) h1).mono ?_
          rintro e w1 ⟨rfl, hb1⟩
          obtain ⟨g2, o2, hga, -, d0, d1⟩ := CeR.at (hpk.out.kept hb1) rfl hr
          subst hga
          have HB1 := hide (bt HB.out hb1)
          clear hb1 c0 c1
          go_wp2_with fail
          refine (near17_is _ (x := r.1) (y := r.2) h2).mono ?_
          rintro e w2 ⟨rfl, hb1⟩
          have HB1 := hide (bt HB1.out hb1)
          clear hb1 d0 d1
          go_wp2_with fail
          go_ret
          exact ⟨ret_int (by rw [← Hz.out, hno.out, Bool.and_false]; rfl), HB1.out⟩
        · have hal2 := hide (And.intro (ars_more hall.out.1 hq h1) (ars_more hall.out.2 hr h2))
          go_wp2_with fail
          refine (near17_is _ (x := q.1) (y := q.2) h1).mono ?_
          rintro e w1 ⟨rfl, hb1⟩
          obtain ⟨g2, o2, hga, -, d0, d1⟩ := CeR.at (hpk.out.kept hb1) rfl hr
          subst hga
          have HB1 := hide (bt HB.out hb1)
          clear hb1 c0 c1
          go_wp2_with fail
          refine (near17_is _ (x := r.1) (y := r.2) h2).mono ?_
          rintro e w2 ⟨rfl, hb1⟩
          have HB1 := hide (bt HB1.out hb1)
          clear hb1 d0 d1
          go_wp2_with fail
          go_roundw
          case rel => exact ⟨k + 1, by omega, by go_num, hal2.out.1, hal2.out.2, HB1.out⟩
          case measure => simp [intOf]; omega
    · obtain rfl : k = n := by omega
      have hki : ¬ ((k : Nat) : Int) < (k : Nat) := by omega
      have h1 : ars U = true := by rw [← hall, ← Hn.out, List.take_length]
      have h2 : ars P = true := by rw [← hall2, ← He.out, List.take_length]
      have hall := hide (And.intro h1 h2)
      clear h1 h2 hall2
      go_wp2_with fail
      go_ret
      exact ⟨ret_int (by rw [← Hz.out, hall.out.1, hall.out.2]; rfl), hB⟩
end Go.Proofs.Ytmkoleioipklpaa
