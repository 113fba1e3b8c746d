/-
  Proved: phalanxlaw02.WireReads returns true for every bytes and every items. Conditions: none but the row's own.
-/
import Derived.Test.YtaioniegggfcjaaReadD
import Derived.Test.YtaioniegggfcjaaItems
import Derived.ProofKit
import Derived.OpenShut
import Derived.ChangeOld
import Derived.Carry
import Derived.SizedLaws
namespace Go.Proofs.Ytaioniegggfcjaa
open Go.RowKit
set_option linter.unusedVariables false
set_option maxHeartbeats 1000000 in
theorem readsLaw (w : World) (vh vl : Value) (l : List Nat) (L : List It) (hh : Bys w vh l) (hl : Items w vl L) (hLn : L.length ≤ 140737488355328) :
    Calls Try.prog 4 #[vh, vl] w fun e w' => e = .returned (.bool true) ∧ Below w.heap.size w w' := by
  obtain ⟨a, cap, rfl, hc, hx⟩ := hl
  have Hh := hide hh
  have Hx := hide hx
  have hLi : (L.length : Int) ≤ 140737488355328 := by omega
  have Hlen : Hid (([] : List Nat).length + l.length ≤ 140737488355328) := by show _ ≤ _; have := hh.len; simp only [List.length_nil]; omega
  obtain ⟨ha, hcap, rfl, _, _⟩ := hh.sl
  clear hh hx hLn
  go_enter Try.func4, Try.ntmps4
  go_wp2_with (first | (at_builtin; refine wpList_append_mine rfl _ _ rfl w.heap.size _ _ [] l rfl rfl (Mine.nil _ _) Hh.out Hlen.out (Nat.le_refl _) ?_) | fail)
  intro v1 w1 hap1
  have Hm1 := hide hap1.1
  have Hb1 := hide hap1.fresh
  clear hap1
  go_wp2_with fail
  refine (read_any w1 v1 l Hm1.out.bys).mono ?_
  rintro e w2 ⟨gp, rfl, hgp, hrp, hb2⟩
  have Hb2 := hide (below_trans Hb1.out hb2)
  have Hrp := hide (hrp.keptBy (below_grown ((Below.refl w2.heap.size w2).alloc (Nat.le_refl _) (.cells #[.slice ha l.length hcap, .int .i64 0, .int .i64 0] 37))) rfl)
  have Hrr := hide (rd_built w2 _ l (Hh.out.kept Hb2.out) 37)
  have Hb3 := hide (Hb2.out.alloc Hb2.out.size (.cells #[.slice ha l.length hcap, .int .i64 0, .int .i64 0] 37))
  have Hgp : Hid (w.heap.size ≤ gp ∧ gp ≠ w2.heap.size ∧ w.heap.size ≤ w2.heap.size) := by
    have := hrp.1.1
    have := Hb1.out.size
    have := Hb2.out.size
    show _ ∧ _ ∧ _
    omega
  clear hrp hb2 hgp
  go_wp2_with fail
  generalize hgr : w2.heap.size = gr at *
  go_loopw [8] (fun i wr => ∃ k : Nat, i = .int .i64 (k : Nat) ∧ k ≤ L.length ∧ (∃ k' e', Rd wr gp l k' e' ∧ Rd wr gr l k' e') ∧ Below w.heap.size w wr) (fun i _ => L.length - (intOf i).toNat)
  case atStart => exact ⟨0, rfl, by omega, ⟨0, 0, Hrp.out, Hrr.out⟩, Hb3.out⟩
  case round =>
    obtain ⟨k, rfl, hk, ⟨k', e', hp, hr⟩, hbl⟩ := hrel
    have Hbl := hide hbl
    by_cases hkn : k < L.length
    · obtain ⟨t, ht⟩ : ∃ t, L[k]? = some t := ⟨_, List.getElem?_eq_getElem hkn⟩
      have hat := (Hx.out k t ht).kept Hbl.out
      obtain ⟨⟨b, o, rfl, hblk, d0, d1, d2, d3⟩, ⟨sa, sn, sc, hts⟩, hn, hm⟩ := hat
      rw [hts] at d2
      have Hrd := hide (reads_any wr w.heap.size gp gr l k' e' t.d (t.n : Nat) t.m sa sn sc hp hr Hgp.out.2.1 Hgp.out.1 Hgp.out.2.2 hbl.size hm)
      have Hkn := hide hkn
      have hk1 : (k : Int) < L.length := by omega
      have hk3 : (0 : Int) ≤ k := by omega
      clear hn hkn hp hr hbl
      go_wp2_with fail
      refine Hrd.out.mono ?_
      rintro e w3 ⟨rfl, k2, e2, f1, f2, f3⟩
      have F1 := hide f1
      have F2 := hide f2
      have F3 := hide (Hbl.out.trans f3)
      clear f1 f2 f3
      go_wp2_with fail
      go_roundw
      case rel => exact ⟨k + 1, rfl, by have := Hkn.out; omega, ⟨k2, e2, F1.out, F2.out⟩, F3.out⟩
      case measure => simp [intOf]; have := Hkn.out; omega
    · obtain rfl : k = L.length := by omega
      have hk1 : ¬ (L.length : Int) < L.length := by omega
      clear hkn hp hr hbl
      go_wp2_with fail
      refine (awake_any _).mono ?_; rintro e w9 ⟨rfl, hb9⟩
      have HB9 := hide (Hbl.out.trans (hb9.mono Hbl.out.size))
      clear hb9
      go_wp2_with fail
      go_ret
      exact ⟨rfl, HB9.out⟩
end Go.Proofs.Ytaioniegggfcjaa
namespace Go.Proofs.Ytaioniegggfcjaa.wireReads
open Go.ChangeShapes Go.WideShapes Go.ChangeAt Go.RowKit
set_option linter.unusedVariables false
theorem own : ownKnob Try.prog.godebug = none := by kernel_rfl
theorem laidOut : laidOutB Try.prog = true := by kernel_rfl
theorem bytes5 : Try.prog.bytesOf 5 = 1 := by kernel_rfl
theorem bytes28 : Try.prog.bytesOf 28 = 48 := by kernel_rfl
set_option maxRecDepth 100000 in
theorem lifted (os : Os) (started : os.Started) (H : Type) (enc : TypeId × Value → H) :
    ReturnsInHanded {} Try.checked os 4 .any (Rows.wireReadsSpec.pre6 enc Try.prog Try.f4 Rows.wireReadsRow.domain false) (Rows.wireReadsSpec.post enc Try.prog Try.f4 false true false false) := by
  refine returnsInHanded_of_change_sized (C := Try.checked) own started (by kernel_rfl) Try.func4
    (ChangeSpec.witness6 (enc := enc) (C := Try.checked) false ⟨#[], #[.slice none 0 0, .slice none 0 0], []⟩ 8 (by kernel_rfl) (by kernel_rfl) (by kernel_rfl) (by kernel_rfl)) ?_
  intro W base args ds gs before hval0 hW hcnd hsz0 _
  have hval : ∀ (j : Nat) t v, Try.f4.params[j]? = some t → args[j]? = some v → Value.okWide Try.prog W .any base t v := hval0
  have hsz : (DataW.weightsEach Try.prog (Try.f4.params.toList ++ Rows.wireReadsSpec.plain.varTypes Try.prog) (ds ++ gs)).all (· ≤ reachBytes) = true := hsz0
  have hW' := hW
  obtain ⟨p, q, hA0, hV, rfl, hfz, hnd⟩ := hW
  have hA : DataW.TrodAll enc Try.prog W 0 (fun _ => true) true Try.f4.params.toList args.toList ds p := hA0
  rw [Try.params4] at hA hval hsz
  obtain ⟨v0, vs0, d0, ds0, p0, q0, hargs, rfl, rfl, h0, r0⟩ := trodAll_cons hA
  obtain ⟨v1, vs1, d1, ds1, p1, q1, rfl, rfl, rfl, h1, r1⟩ := trodAll_cons r0
  obtain ⟨rfl, rfl, rfl⟩ := trodAll_nil r1
  obtain rfl : args = #[v0, v1] := by cases args; simp_all
  obtain ⟨rfl, rfl⟩ := trodVars_none hV
  have lt0 : ∀ x ∈ p0, x.block < W.heap.size := by obtain ⟨m, hm⟩ := h0; exact DataW.trod_lt m _ _ _ hm
  have lt1 : ∀ x ∈ p1, x.block < W.heap.size := by obtain ⟨m, hm⟩ := h1; exact DataW.trod_lt m _ _ _ hm
  obtain ⟨l, hl⟩ := opened_reach h0 (okWide_slice Try.underlying22 (hval 0 22 v0 rfl rfl)) (fun elems spare hd => by
    subst hd
    have := sized_slice hsz (j := 0) (t := 22) (e := 5) rfl rfl Try.underlying22
    rw [bytes5] at this
    simp only [reachBytes] at this
    omega)
  obtain ⟨L, hL, hS⟩ := opened_items h1 (okWide_slice Try.underlying23 (hval 1 23 v1 rfl rfl))
  have hLn : L.length ≤ 140737488355328 := by
    rcases hS with ⟨_, rfl⟩ | ⟨D, spare, rfl, _⟩
    · simp
    · have := sized_slice hsz (j := 1) (t := 23) (e := 28) rfl rfl Try.underlying23
      rw [bytes28] at this
      simp only [reachBytes, List.length_map, List.length_range] at this
      omega
  clear hA0 hval0
  refine (readsLaw W v0 v1 l L hl hL hLn).mono fun e W' ⟨he, bel⟩ => ?_
  subst he
  exact ⟨_, rfl, _, _, _, [], _, [], hW', trodAll_mk1 (shut_bool Try.underlying4 _), (trodAll_cons_mk (Below.trod laidOut (by kernel_rfl) (of_decide_eq_true (by kernel_rfl)) h0 bel lt0) (trodAll_cons_mk (Below.trod laidOut (by kernel_rfl) (of_decide_eq_true (by kernel_rfl)) h1 bel lt1) trodAll_mk0)), rfl, bel.frame _, fun h => by cases h⟩
theorem over : Rows.wireReadsRow.holds Try.pinned (OpenSpec.ofChange Rows.wireReadsSpec) :=
  OpenClaim.holds_of_wide 4 Try.f4 rfl rfl rfl rfl rfl rfl rfl ⟨rfl, rfl, rfl, rfl, rfl⟩ rfl rfl rfl rfl rfl (by kernel_rfl) Try.func4 (by kernel_rfl)
    (of_decide_eq_true (by kernel_rfl)) (by unfold Func.isWrapper; first | (rw [if_pos (by decide +kernel)]; kernel_rfl) | (rw [if_neg (by decide +kernel)]; exact ⟨rfl, rfl⟩))
    (fun os started H enc _ => lifted os started H enc)
end Go.Proofs.Ytaioniegggfcjaa.wireReads
namespace Go.Proofs.Ytaioniegggfcjaa
theorem wireReads_holds : Rows.WireReadsSaid := wireReads.over
#print axioms wireReads_holds
end Go.Proofs.Ytaioniegggfcjaa
