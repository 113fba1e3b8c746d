/-
  lift and sink.
-/
import Derived.Test.YtdhiomahcilffaaPure
namespace Go.Proofs.Ytdhiomahcilffaa
open Go.RowKit
set_option linter.unusedVariables false
set_option linter.unusedSimpArgs false
theorem int_eq {x y : Int} (h : x = y) : Value.int .i64 x = .int .i64 y := by rw [h]
/-- What a loop of lift or sink keeps: the heap's row, its items changed about. -/
def Kp (w : World) (b : Nat) (v : Value) (n : Int) (l : List It) (l' : List It) (wr : World) : Prop :=
  Its wr v l' ∧ l'.Perm l ∧ Hp wr b v n false ∧ Turns (fun k => v.ownBlock = some k) w wr
theorem Kp.upto {w wr w' : World} {b : Nat} {v : Value} {n : Int} {l l' : List It} (h : Kp w b v n l l' wr) (hb : Below wr.heap.size wr w') : Kp w b v n l l' w' :=
  ⟨h.1.upto hb, h.2.1, h.2.2.1.upto hb, h.2.2.2.trans (Turns.of_below hb)⟩
theorem Kp.swap {w wr w' : World} {b : Nat} {v : Value} {n : Int} {l l' : List It} {i j : Nat} (h : Kp w b v n l l' wr) (hi : i < l'.length) (hj : j < l'.length) (h1 : Its w' v (swp l' i j)) (h2 : Turns (fun k => v.ownBlock = some k) wr w') : Kp w b v n l (swp l' i j) w' :=
  ⟨h1, (swp_perm hi hj).trans h.2.1, h.2.2.1.kept h2 (h.2.2.1.ne_row h.1 (by decide)), h.2.2.2.trans (h2.mono (fun _ _ e => .inl e))⟩
theorem Kp.before {w wr : World} {b : Nat} {v : Value} {n : Int} {l l' : List It} (h : Kp w b v n l l' wr) {i j : Nat} {I J : Int} {r : Bool} (eI : I = (i : Nat)) (eJ : J = (j : Nat)) (hi : i < l'.length) (hj : j < l'.length) (hr : lt (nth l' i) (nth l' j) = r) :
    Calls Try.prog 30 #[ptr b, .int .i64 I, .int .i64 J] wr fun e w' => e = .returned (.bool r) ∧ Kp w b v n l l' w' := by
  subst eI; subst eJ; subst hr
  exact (before_is b v n l' i j _ _ wr h.2.2.1 h.1 (nth_get hi) (nth_get hj)).mono fun e w' q => ⟨q.1, h.upto q.2⟩
theorem Kp.swaps {w wr : World} {b : Nat} {v : Value} {n : Int} {l l' : List It} (h : Kp w b v n l l' wr) {i j : Nat} {I J : Int} (eI : I = (i : Nat)) (eJ : J = (j : Nat)) (hi : i < l'.length) (hj : j < l'.length) :
    Calls Try.prog 31 #[ptr b, .int .i64 I, .int .i64 J] wr fun e w' => e = .returned (.tuple #[]) ∧ Kp w b v n l (swp l' i j) w' := by
  subst eI; subst eJ
  exact (swap_is b v n l' i j _ _ wr h.2.2.1 h.1 (nth_get hi) (nth_get hj)).mono fun e w' q => ⟨q.1, h.swap hi hj q.2.1 q.2.2⟩
set_option maxRecDepth 100000 in
set_option maxHeartbeats 2000000 in
theorem lift_is (b : Nat) (v : Value) (n : Int) (l : List It) (w : World) (h : Hp w b v n false) (hv : Its w v l) (hl : 0 < l.length) (hlow : Low l (l.length - 1)) :
    Calls Try.prog 23 #[ptr b] w fun e w' => e = .returned (.tuple #[]) ∧ ∃ l', Heap l' ∧ Kp w b v n l l' w' := by
  have hk0 : Kp w b v n l l w := ⟨hv, List.Perm.refl _, h, Turns.refl _ _⟩
  obtain ⟨g, cap, hve, hcap, hmax, hg⟩ := hv.form hl
  have c1 : w.cell? ⟨b, 1, none⟩ = some (.slice (some ⟨g, 0, none⟩) l.length cap) := hve ▸ h.c 1
  have hm : l.length ≤ 9223372036854775807 := by unfold maxLen at hmax; omega
  have HK := hide hk0
  have HL := hide hlow
  clear h hv hk0 hlow hve hcap hmax
  go_enter Try.func23, Try.ntmps23
  go_wp2_with fail
  go_loopw [2] (fun i wr => ∃ (a : Nat) (l' : List It), i = .int .i64 (a : Nat) ∧ a < l'.length ∧ l'.length = l.length ∧ Low l' a ∧ Kp w b v n l l' wr) (fun i _ => (intOf i).toNat)
  case atStart => exact ⟨l.length - 1, l, by go_num, by omega, rfl, HL.out, HK.out⟩
  case round =>
    obtain ⟨a, l', rfl, hal, hll, hlow, hkp⟩ := hrel
    have HKp := hide hkp
    have HLo := hide hlow
    clear hkp hlow HK HL
    by_cases ha : a = 0
    · subst ha
      go_wp2_with fail
      go_end0
      exact ⟨rfl, l', HLo.out.done (.inl rfl), HKp.out⟩
    · obtain ⟨c, hc⟩ : ∃ c : Nat, (a - 1) / 2 = c := ⟨_, rfl⟩
      have hcl : c < l'.length := by omega
      have hca : c < a := by omega
      have hd : ((a : Int) - 1).tdiv 2 = (c : Nat) := by rw [Int.tdiv_eq_ediv_of_nonneg (by omega)]; omega
      cases hlt : lt (nth l' a) (nth l' c)
      · go_wp2_with (go_at_call 30; refine (HKp.out.before rfl rfl hal hcl hlt).mono ?_; rintro e w1 ⟨rfl, hk1⟩)
        refine bodyPost_ret (results_none rfl _ _ _) rfl ?_
        exact ⟨rfl, l', HLo.out.done (.inr (by rw [hc]; exact hlt)), hk1⟩
      · go_wp2_with (go_at_call 30; refine (HKp.out.before rfl rfl hal hcl hlt).mono ?_; rintro e w1 ⟨rfl, hk1⟩)
        refine (hk1.swaps rfl rfl hal hcl).mono ?_
        rintro e w2 ⟨rfl, hk2⟩
        have HK2 := hide hk2
        clear hk1 hk2 HKp
        go_wp2_with fail
        go_roundw
        case rel => exact ⟨c, _, rfl, by rw [swp_len]; exact hcl, by rw [swp_len]; exact hll, by have := HLo.out.next (by omega) hal (by rw [hc]; exact hlt); rw [hc] at this; exact this, HK2.out⟩
        case measure => simp [intOf]; omega
set_option maxRecDepth 100000 in
set_option maxHeartbeats 2000000 in
theorem sink_is (b : Nat) (v : Value) (n : Int) (l : List It) (w : World) (h : Hp w b v n false) (hv : Its w v l) (hlen : l.length ≤ 1152921504606846976) (hhigh : High l 0) :
    Calls Try.prog 24 #[ptr b] w fun e w' => e = .returned (.tuple #[]) ∧ ∃ l', Heap l' ∧ Kp w b v n l l' w' := by
  have hk0 : Kp w b v n l l w := ⟨hv, List.Perm.refl _, h, Turns.refl _ _⟩
  obtain ⟨g, cap, hve, hm⟩ := hv.slice
  have HK := hide hk0
  have HL := hide hhigh
  have HC : Hid (∀ l' wr, Kp w b v n l l' wr → wr.cell? ⟨b, 1, none⟩ = some (.slice g l.length cap)) := hide fun l' wr hk => hve ▸ hk.2.2.1.c 1
  clear h hv hk0 hhigh hve
  go_enter Try.func24, Try.ntmps24
  go_wp2_with fail
  go_loopw [2, 3] (fun i j wr => ∃ (a m : Nat) (l' : List It), i = .int .i64 (a : Nat) ∧ j = .int .i64 (m : Nat) ∧ m = 2 * a + 1 ∧ (a < l'.length ∨ a = 0) ∧ l'.length = l.length ∧ High l' a ∧ Kp w b v n l l' wr) (fun i _ _ => l.length - (intOf i).toNat)
  case atStart => exact ⟨0, 1, l, rfl, rfl, rfl, .inr rfl, rfl, HL.out, HK.out⟩
  case round =>
    obtain ⟨a, m, l', rfl, rfl, hma, hal, hll, hhigh, hkp⟩ := hrel
    have HKp := hide hkp
    have HHi := hide hhigh
    have c1 := HC.out l' _ hkp
    clear hkp hhigh HK HL
    have hch : ∀ i, 0 < i → (i - 1) / 2 = a → i = m ∨ i = m + 1 := fun i h1 h2 => by omega
    have HCh := hide hch
    clear hch
    obtain ⟨A, hA⟩ : ∃ A : Int, (a : Int) = A := ⟨_, rfl⟩
    obtain ⟨M, hM⟩ : ∃ M : Int, (m : Int) = M := ⟨_, rfl⟩
    rw [hA, hM]
    have HA := hide hA
    have HM := hide hM
    have HLN := hide hlen
    have HLM := hide hm
    by_cases hb : m < l.length
    · have hbi : M < (l.length : Nat) := by omega
      have hM0 : 0 ≤ M := by omega
      have hM1 : M + 1 ≤ 1152921504606846976 := by omega
      have hA0 : 0 ≤ A := by omega
      have hbl : m < l'.length := by omega
      have hal' : a < l'.length := by omega
      have HE : Hid ((m - 1) / 2 = a ∧ (m + 1 - 1) / 2 = a) := hide (by omega)
      have HMA := hide hma
      have HAL := hide hal
      have HBL := hide hbl
      have HALL := hide hal'
      have HLL := hide hll
      by_cases hr : m + 1 < l.length
      · have hri : M + 1 < (l.length : Nat) := by omega
        have HRL : Hid (m + 1 < l'.length) := hide (by omega)
        have HM1 : Hid (M + 1 = ((m + 1 : Nat) : Int)) := hide (by omega)
        clear hma hal hA hM hlen hm hb hr hbl hal' hll
        cases hr1 : lt (nth l' (m + 1)) (nth l' m)
        · have hmin : Hid (∀ i, 0 < i → i < l'.length → (i - 1) / 2 = a → lt (nth l' i) (nth l' m) = false) := hide fun i h1 h2 h3 => by
            rcases HCh.out i h1 h3 with rfl | rfl
            · rw [lt_not]; omega
            · exact hr1
          cases hq : lt (nth l' m) (nth l' a)
          · go_wp2_with fail
            refine (HKp.out.before HM1.out HM.out.symm HRL.out HBL.out hr1).mono ?_
            rintro e w1 ⟨rfl, hk1⟩
            have HK1 := hide hk1
            clear hk1
            go_wp2_with fail
            refine (HK1.out.before HM.out.symm HA.out.symm HBL.out HALL.out hq).mono ?_
            rintro e w2 ⟨rfl, hk2⟩
            have HK2 := hide hk2
            clear hk2
            go_wp2_with fail
            refine bodyPost_ret (results_none rfl _ _ _) rfl ?_
            exact ⟨rfl, l', HHi.out.done (fun i h1 h2 h3 => by have := hmin.out i h1 h2 h3; rw [lt_not] at this hq ⊢; omega), HK2.out⟩
          · go_wp2_with fail
            refine (HKp.out.before HM1.out HM.out.symm HRL.out HBL.out hr1).mono ?_
            rintro e w1 ⟨rfl, hk1⟩
            have HK1 := hide hk1
            clear hk1
            go_wp2_with fail
            refine (HK1.out.before HM.out.symm HA.out.symm HBL.out HALL.out hq).mono ?_
            rintro e w2 ⟨rfl, hk2⟩
            have HK2 := hide hk2
            clear hk2
            go_wp2_with fail
            refine (HK2.out.swaps HM.out.symm HA.out.symm HBL.out HALL.out).mono ?_
            rintro e w3 ⟨rfl, hk3⟩
            have HK3 := hide hk3
            clear hk3
            go_wp2_with fail
            go_roundw
            case rel => exact ⟨m, 2 * (m) + 1, _, int_eq (by have := HM.out; omega), int_eq (by have := HM.out; omega), rfl, .inl (by rw [swp_len]; exact HBL.out), by rw [swp_len]; exact HLL.out, HHi.out.next HBL.out (by have := HMA.out; omega) (by have := HE.out; omega) hq hmin.out, HK3.out⟩
            case measure => have := HMA.out; have := HA.out; have := HM.out; have := HBL.out; have := HLL.out; simp [intOf]; omega
        · have hmin : Hid (∀ i, 0 < i → i < l'.length → (i - 1) / 2 = a → lt (nth l' i) (nth l' (m + 1)) = false) := hide fun i h1 h2 h3 => by
            rcases HCh.out i h1 h3 with rfl | rfl
            · rw [lt_iff] at hr1; rw [lt_not]; omega
            · rw [lt_not]; omega
          cases hq : lt (nth l' (m + 1)) (nth l' a)
          · go_wp2_with fail
            refine (HKp.out.before HM1.out HM.out.symm HRL.out HBL.out hr1).mono ?_
            rintro e w1 ⟨rfl, hk1⟩
            have HK1 := hide hk1
            clear hk1
            go_wp2_with fail
            refine (HK1.out.before HM1.out HA.out.symm HRL.out HALL.out hq).mono ?_
            rintro e w2 ⟨rfl, hk2⟩
            have HK2 := hide hk2
            clear hk2
            go_wp2_with fail
            refine bodyPost_ret (results_none rfl _ _ _) rfl ?_
            exact ⟨rfl, l', HHi.out.done (fun i h1 h2 h3 => by have := hmin.out i h1 h2 h3; rw [lt_not] at this hq ⊢; omega), HK2.out⟩
          · go_wp2_with fail
            refine (HKp.out.before HM1.out HM.out.symm HRL.out HBL.out hr1).mono ?_
            rintro e w1 ⟨rfl, hk1⟩
            have HK1 := hide hk1
            clear hk1
            go_wp2_with fail
            refine (HK1.out.before HM1.out HA.out.symm HRL.out HALL.out hq).mono ?_
            rintro e w2 ⟨rfl, hk2⟩
            have HK2 := hide hk2
            clear hk2
            go_wp2_with fail
            refine (HK2.out.swaps HM1.out HA.out.symm HRL.out HALL.out).mono ?_
            rintro e w3 ⟨rfl, hk3⟩
            have HK3 := hide hk3
            clear hk3
            go_wp2_with fail
            go_roundw
            case rel => exact ⟨m + 1, 2 * (m + 1) + 1, _, int_eq (by have := HM.out; omega), int_eq (by have := HM.out; omega), rfl, .inl (by rw [swp_len]; exact HRL.out), by rw [swp_len]; exact HLL.out, HHi.out.next HRL.out (by have := HMA.out; omega) (by have := HE.out; omega) hq hmin.out, HK3.out⟩
            case measure => have := HMA.out; have := HA.out; have := HM.out; have := HBL.out; have := HLL.out; simp [intOf]; omega
      · have hri : ¬ M + 1 < (l.length : Nat) := by omega
        have hmin : Hid (∀ i, 0 < i → i < l'.length → (i - 1) / 2 = a → lt (nth l' i) (nth l' m) = false) := hide fun i h1 h2 h3 => by
          rcases HCh.out i h1 h3 with rfl | rfl
          · rw [lt_not]; omega
          · omega
        clear hma hal hA hM hlen hm hb hr hbl hal' hll
        cases hq : lt (nth l' m) (nth l' a)
        · go_wp2_with fail
          refine (HKp.out.before HM.out.symm HA.out.symm HBL.out HALL.out hq).mono ?_
          rintro e w2 ⟨rfl, hk2⟩
          have HK2 := hide hk2
          clear hk2
          go_wp2_with fail
          refine bodyPost_ret (results_none rfl _ _ _) rfl ?_
          exact ⟨rfl, l', HHi.out.done (fun i h1 h2 h3 => by have := hmin.out i h1 h2 h3; rw [lt_not] at this hq ⊢; omega), HK2.out⟩
        · go_wp2_with fail
          refine (HKp.out.before HM.out.symm HA.out.symm HBL.out HALL.out hq).mono ?_
          rintro e w2 ⟨rfl, hk2⟩
          have HK2 := hide hk2
          clear hk2
          go_wp2_with fail
          refine (HK2.out.swaps HM.out.symm HA.out.symm HBL.out HALL.out).mono ?_
          rintro e w3 ⟨rfl, hk3⟩
          have HK3 := hide hk3
          clear hk3
          go_wp2_with fail
          go_roundw
          case rel => exact ⟨m, 2 * (m) + 1, _, int_eq (by have := HM.out; omega), int_eq (by have := HM.out; omega), rfl, .inl (by rw [swp_len]; exact HBL.out), by rw [swp_len]; exact HLL.out, HHi.out.next HBL.out (by have := HMA.out; omega) (by have := HE.out; omega) hq hmin.out, HK3.out⟩
          case measure => have := HMA.out; have := HA.out; have := HM.out; have := HBL.out; have := HLL.out; simp [intOf]; omega
    · have hbi : ¬ M < (l.length : Nat) := by omega
      clear hA hM
      go_wp2_with fail
      go_end0
      exact ⟨rfl, l', HHi.out.done (fun i h1 h2 h3 => by rcases HCh.out i h1 h3 with rfl | rfl <;> omega), HKp.out⟩
end Go.Proofs.Ytdhiomahcilffaa
