/-
  Proved: phalanxlaw02.WireCanonical returns true for every slice of bytes. Conditions: none but the row's own.
-/
import Derived.Test.YtaioniegggfcjaaSame
import Derived.Test.YtaioniegggfcjaaWrite2
import Derived.Test.YtaioniegggfcjaaOpens
import Derived.ProofKit
import Derived.OpenShut
import Derived.ChangeOld
import Derived.Carry
import Derived.SizedLaws
import Derived.Deep.DeepCutAuto
import Derived.RegionTactic
import Derived.Deep.RegionWith
namespace Go.Proofs.Ytaioniegggfcjaa
open Go.RowKit
set_option linter.unusedVariables false
theorem same_drew (w : World) : Same w w.drew := ⟨rfl, rfl, rfl, rfl⟩
theorem below_uv {w w3 w4 : World} (h : Below w.heap.size w w3) (k : Below w3.drew.heap.size w3.drew w4) : Below w.heap.size w w4 := h.trans (((same_drew w3).below _).trans (k.mono h.size))
theorem rest_whole (l : List Nat) : restOf l 0 0 = l := by simp [restOf]
/-- Of what was read: how many bytes, and that they are just those that are written. -/
theorem canon {l : List Nat} (hs : Small l) (h : bad l 0 0 = 0) : l.take (stand l 0 0) = enc (numN (restOf l 0 0)) ∧ stand l 0 0 ≤ l.length := by
  unfold bad first stand at *
  rw [rest_whole] at *
  rw [Nat.zero_add]
  cases hd : dec 0 l with
  | none => rw [(num_none hd).2] at h; simp at h
  | some p =>
    obtain ⟨n, k⟩ := p
    rw [(num_some hd).1, (num_some hd).2]
    have := dec_form l 0 hs n k hd
    exact ⟨this.2.1, this.1⟩
set_option maxRecDepth 100000 in
set_option maxHeartbeats 1000000 in
theorem canonical (w : World) (v : Value) (l : List Nat) (hv : Bys w v l) :
    Calls Try.prog 6 #[v] w fun e w' => e = .returned (.bool true) ∧ Below w.heap.size w w' := by
  obtain ⟨a, cap, rfl, hc, _⟩ := hv.sl
  have hlen := hv.len
  have hL1 : (l.length : Int) ≤ 140737488355328 := by omega
  have hst := stand_le (e := 0) hv.small (Nat.zero_le l.length)
  have hcan := canon hv.small
  have hnl := numN_lt (small_rest hv.small 0 0)
  have Hv := hide hv
  clear hv
  go_enter Try.func6, Try.ntmps6
  go_wp2_with fail
  refine (read_any w _ l Hv.out).mono ?_
  rintro e w1 ⟨g, rfl, hg, hr, hb1⟩
  have Hr := hide hr
  have Hb1 := hide hb1
  clear hr hb1
  go_wp2_with fail
  refine (uv_any w1 g l 0 0 Hr.out).mono ?_
  rintro e w2 ⟨rfl, hr2, hg2⟩
  have Hr2 := hide hr2
  have Hb2 := hide (Hb1.out.trans (grown_below (base := w.heap.size) hg2 Hb1.out.size (fun k hk => by cases hk; exact hg)))
  clear hr2 hg2
  go_wp2_with fail
  refine (left_any w2 g l _ _ Hr2.out).mono ?_
  rintro e w3 ⟨rfl, hs3⟩
  have Hr3 := hide (Hr2.out.same hs3)
  have Hb3 := hide (Hb2.out.trans (hs3.below _))
  clear hs3
  obtain ⟨K, hK⟩ : ∃ K, K = stand l 0 0 := ⟨_, rfl⟩
  obtain ⟨E, hE⟩ : ∃ E, E = bad l 0 0 := ⟨_, rfl⟩
  obtain ⟨N, hN⟩ : ∃ N, N = numN (restOf l 0 0) := ⟨_, rfl⟩
  rw [← hK] at hst hcan
  rw [← hE, ← hN] at hcan
  rw [← hN] at hnl
  rw [← hK, ← hE] at Hr3
  rw [← hK, ← hN]
  have e5 : (l.length : Int) - ((l.length - K : Nat) : Int) = (K : Int) := by omega
  generalize ((l.length - K : Nat) : Int) = r at *
  have hK1 : (K : Int) ≤ cap := by omega
  have hK2 : K ≤ cap := by omega
  have hr0 : (0 : Int) ≤ r ∧ r ≤ l.length := by omega
  have hst1 : (K : Int) ≤ l.length := by omega
  have Hst := hide hst
  have Hnl := hide hnl
  have Hcan := hide hcan
  have HvB := hide (fun (wx : World) (h : Below w.heap.size w wx) => (Hv.out.kept h).upto hst)
  have HN := hide hN
  have HK := hide hK
  have HE := hide hE
  clear hcan hst hnl hlen hN hK hE
  go_wp2_with fail
  go_cut [30] (fun s30 wx => s30 = .bool false ∧ Rd wx g l K E ∧ Below w.heap.size w wx)
  case first =>
    have hE0 : E = 0 ∨ E = 5 := by rw [HE.out]; unfold bad first; split <;> simp
    rcases hE0 with hE0 | hE0
    · subst hE0
      have htk : List.take K l = enc N := (Hcan.out rfl).1
      have Htk := hide htk
      clear htk
      go_region_with (first
        | (go_at_call 20; refine (err_any _ g l K 0 (Hr3.out.same (same_drew _))).mono ?_; rintro e wz ⟨rfl, hwz⟩; rw [hwz]; clear hwz wz)
        | (go_at_call 21; refine (uvarint_any _ _ [] N (Bys.nil _) Hnl.out (by simp)).mono ?_; rintro e w4 ⟨v4, rfl, hm4, hb4⟩; have Hm4 := hide hm4; have Hb4 := hide hb4; clear hm4 hb4)
        | (go_at_call 9; refine (same_any _ _ _ ([] ++ enc N) (l.take K) Hm4.out.bys (HvB.out _ (below_uv Hb3.out Hb4.out))).mono ?_; rintro e wz ⟨rfl, hwz⟩; rw [hwz]; clear hwz wz; rw [List.nil_append, ← Htk.out, decide_eq_true rfl])
        | fail)
      all_goals
        go_wp2_with fail
        go_meet
        exact ⟨rfl, (Hr3.out.same (same_drew _)).keptBy (below_grown Hb4.out) rfl, below_uv Hb3.out Hb4.out⟩
    · subst hE0
      go_quiet (first
        | exact (err_any _ g l K 5 (Hr3.out.same (same_drewN _ _))).mono (by rintro e wz ⟨rfl, rfl⟩; exact ⟨rfl, _, rfl⟩)
        | fail)
      go_wp2_with fail
      go_meet
      exact ⟨rfl, Hr3.out.same (same_drewN _ _), Hb3.out.trans ((same_drewN _ _).below _)⟩
  case rest =>
  obtain ⟨rfl, hrc, hbc⟩ := hcut
  have Hrc := hide hrc
  have Hbc := hide hbc
  clear hrc hbc Hr2 Hb2 Hr3 Hb3 Hr Hb1
  go_wp2_with fail
  refine (read_any wc _ l (Hv.out.kept Hbc.out)).mono ?_
  rintro e w5 ⟨q, rfl, hq, hr, hb1⟩
  have hgq : g < q := Nat.lt_of_lt_of_le Hrc.out.1.1 hq
  have Hr5 := hide hr
  have Hp5 := hide (Hrc.out.keptBy (below_grown hb1) rfl)
  have Hb5 := hide (Hbc.out.trans (hb1.mono Hbc.out.size))
  clear hr hb1 Hrc
  go_wp2_with fail
  refine (vr_any w5 q l 0 0 Hr5.out).mono ?_
  rintro e w6 ⟨rfl, hr6, hg6⟩
  have Hr6 := hide hr6
  have Hp6 := hide (Hp5.out.apart Hr5.out hg6 (by omega))
  have Hb6 := hide (Hb5.out.trans (grown_below (base := w.heap.size) hg6 Hb5.out.size (fun k hk => by cases hk; exact Nat.le_trans Hbc.out.size hq)))
  clear hr6 hg6 Hr5 Hp5 Hb5 Hbc
  go_wp2_with fail
  refine (left_any w6 q l _ _ Hr6.out).mono ?_
  rintro e w7 ⟨rfl, hs7⟩
  have hr7 := Hr6.out.same hs7
  have Hp7 := hide (Hp6.out.same hs7)
  have Hb7 := hide (Hb6.out.trans (hs7.below _))
  rw [← HN.out, ← HK.out]
  rw [← HK.out, ← HE.out] at hr7
  have Hr7 := hide hr7
  clear hs7 hr7 Hr6 Hp6 Hb6
  have Hzr := hide (zag_range Hnl.out)
  have Hzz := hide (zig_zag N)
  generalize zag N = Z at *
  have e6 : (l.length : Int) - ((l.length - K : Nat) : Int) = (K : Int) := by have := Hst.out; omega
  have hr1 : (0 : Int) ≤ ((l.length - K : Nat) : Int) ∧ ((l.length - K : Nat) : Int) ≤ l.length := by have := Hst.out; omega
  generalize ((l.length - K : Nat) : Int) = r' at *
  go_wp2_with fail
  go_cut [51] (fun s51 wx => s51 = .bool false ∧ Rd wx q l K E ∧ Rd wx g l K E ∧ Below w.heap.size w wx)
  case first =>
    have hE0 : E = 0 ∨ E = 5 := by rw [HE.out]; unfold bad first; split <;> simp
    rcases hE0 with hE0 | hE0
    · subst hE0
      have htk : List.take K l = enc (zig Z) := by rw [Hzz.out]; exact (Hcan.out rfl).1
      have Htk := hide htk
      clear htk
      go_region_with (first
        | (go_at_call 20; refine (err_any _ q l K 0 (Hr7.out.same (same_drew _))).mono ?_; rintro e wz ⟨rfl, hwz⟩; rw [hwz]; clear hwz wz)
        | (go_at_call 22; refine (varint_any _ _ [] Z (Bys.nil _) Hzr.out (by simp)).mono ?_; rintro e w4 ⟨v4, rfl, hm4, hb4⟩; have Hm4 := hide hm4; have Hb4 := hide hb4; clear hm4 hb4)
        | (go_at_call 9; refine (same_any _ _ _ ([] ++ enc (zig Z)) (l.take K) Hm4.out.bys (HvB.out _ (below_uv Hb7.out Hb4.out))).mono ?_; rintro e wz ⟨rfl, hwz⟩; rw [hwz]; clear hwz wz; rw [List.nil_append, ← Htk.out, decide_eq_true rfl])
        | fail)
      all_goals
        go_wp2_with fail
        go_meet
        exact ⟨rfl, (Hr7.out.same (same_drew _)).keptBy (below_grown Hb4.out) rfl, (Hp7.out.same (same_drew _)).keptBy (below_grown Hb4.out) rfl, below_uv Hb7.out Hb4.out⟩
    · subst hE0
      go_quiet (first
        | exact (err_any _ q l K 5 (Hr7.out.same (same_drewN _ _))).mono (by rintro e wz ⟨rfl, rfl⟩; exact ⟨rfl, _, rfl⟩)
        | fail)
      go_wp2_with fail
      go_meet
      exact ⟨rfl, Hr7.out.same (same_drewN _ _), Hp7.out.same (same_drewN _ _), Hb7.out.trans ((same_drewN _ _).below _)⟩
  case rest =>
  obtain ⟨rfl, hrq, hrp, hbc⟩ := hcut
  have Hq := hide (err_any _ q l K E hrq)
  have Hp := hide (err_any _ g l K E hrp)
  have Hb := hide hbc
  clear hrq hrp hbc
  go_wp2_with fail
  refine Hq.out.mono ?_; rintro e wz ⟨rfl, hwz⟩; rw [hwz]; clear hwz wz
  go_wp2_with fail
  refine Hp.out.mono ?_; rintro e wz ⟨rfl, hwz⟩; rw [hwz]; clear hwz wz
  go_wp2_with fail
  refine (awake_any _).mono ?_; rintro e w9 ⟨rfl, hb9⟩
  have HB := hide (Hb.out.trans (hb9.mono Hb.out.size))
  clear hb9
  go_wp2_with fail
  go_ret
  exact ⟨rfl, HB.out⟩
end Go.Proofs.Ytaioniegggfcjaa
namespace Go.Proofs.Ytaioniegggfcjaa.wireCanonical
open Go.ChangeShapes Go.WideShapes Go.ChangeAt Go.RowKit
set_option linter.unusedVariables false
theorem own : ownKnob Try.prog.godebug = none := by kernel_rfl
theorem laidOut : laidOutB Try.prog = true := by kernel_rfl
theorem bytes5 : Try.prog.bytesOf 5 = 1 := by kernel_rfl
set_option maxRecDepth 100000 in
theorem lifted (os : Os) (started : os.Started) (H : Type) (enc : TypeId × Value → H) :
    ReturnsInHanded {} Try.checked os 6 .any (Rows.wireCanonicalSpec.pre6 enc Try.prog Try.f6 Rows.wireCanonicalRow.domain false) (Rows.wireCanonicalSpec.post enc Try.prog Try.f6 false true false false) := by
  refine returnsInHanded_of_change_sized (C := Try.checked) own started (by kernel_rfl) Try.func6
    (ChangeSpec.witness6 (enc := enc) (C := Try.checked) false ⟨#[], #[.slice none 0 0], []⟩ 8 (by kernel_rfl) (by kernel_rfl) (by kernel_rfl) (by kernel_rfl)) ?_
  intro W base args ds gs before hval0 hW hcnd hsz0 _
  have hval : ∀ (j : Nat) t v, Try.f6.params[j]? = some t → args[j]? = some v → Value.okWide Try.prog W .any base t v := hval0
  have hsz : (DataW.weightsEach Try.prog (Try.f6.params.toList ++ Rows.wireCanonicalSpec.plain.varTypes Try.prog) (ds ++ gs)).all (· ≤ reachBytes) = true := hsz0
  have hW' := hW
  obtain ⟨p, q, hA0, hV, rfl, hfz, hnd⟩ := hW
  have hA : DataW.TrodAll enc Try.prog W 0 (fun _ => true) true Try.f6.params.toList args.toList ds p := hA0
  rw [Try.params6] at hA hval hsz
  obtain ⟨v0, vs0, d0, ds0, p0, q0, hargs, rfl, rfl, h0, r0⟩ := trodAll_cons hA
  obtain ⟨rfl, rfl, rfl⟩ := trodAll_nil r0
  obtain rfl : args = #[v0] := by cases args; simp_all
  obtain ⟨rfl, rfl⟩ := trodVars_none hV
  have k0 := h0
  have lt0 : ∀ x ∈ p0, x.block < W.heap.size := by obtain ⟨m, hm⟩ := k0; exact DataW.trod_lt m _ _ _ hm
  obtain ⟨a0, len0, cap0, rfl⟩ := okWide_slice Try.underlying22 (hval 0 22 v0 rfl rfl)
  obtain ⟨l, hl⟩ := opened_reach h0 (hr := fun elems spare hd => by
    subst hd
    have := sized_slice hsz (j := 0) (t := 22) (e := 5) rfl rfl Try.underlying22
    rw [bytes5] at this
    simp only [reachBytes] at this
    omega)
  clear hA0 hval0
  refine (canonical W _ l hl).mono fun e W' ⟨he, bel⟩ => ?_
  subst he
  exact ⟨_, rfl, _, _, _, [], _, [], hW', trodAll_mk1 (shut_bool Try.underlying4 _), (trodAll_cons_mk (Below.trod laidOut (by kernel_rfl) (of_decide_eq_true (by kernel_rfl)) k0 bel lt0) trodAll_mk0), rfl, bel.frame _, fun h => by cases h⟩
theorem over : Rows.wireCanonicalRow.holds Try.pinned (OpenSpec.ofChange Rows.wireCanonicalSpec) :=
  OpenClaim.holds_of_wide 6 Try.f6 rfl rfl rfl rfl rfl rfl rfl ⟨rfl, rfl, rfl, rfl, rfl⟩ rfl rfl rfl rfl rfl (by kernel_rfl) Try.func6 (by kernel_rfl)
    (of_decide_eq_true (by kernel_rfl)) (by unfold Func.isWrapper; first | (rw [if_pos (by decide +kernel)]; kernel_rfl) | (rw [if_neg (by decide +kernel)]; exact ⟨rfl, rfl⟩))
    (fun os started H enc _ => lifted os started H enc)
end Go.Proofs.Ytaioniegggfcjaa.wireCanonical
namespace Go.Proofs.Ytaioniegggfcjaa
theorem wireCanonical_holds : Rows.WireCanonicalSaid := wireCanonical.over
#print axioms wireCanonical_holds
end Go.Proofs.Ytaioniegggfcjaa
