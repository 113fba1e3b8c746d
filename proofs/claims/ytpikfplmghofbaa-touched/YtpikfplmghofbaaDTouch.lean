/-
  The document's Touched: the same clusters, in the same order.
-/
import Derived.Test.YtpikfplmghofbaaTch
import Derived.Test.YtpikfplmghofbaaGath
import Derived.Test.YtpikfplmghofbaaRefMeet
import Derived.Test.YtpikfplmghofbaaRefW
set_option linter.unusedSimpArgs false
namespace Go.Proofs.Ytpikfplmghofbaa
open Go.RowKit
set_option linter.unusedVariables false
attribute [local go_sem] Oper.semAt_some
theorem wpList_append_run {P : Program} {w : World} {ops : Array Oper} {rest : List Oper} {o : Oper} {a : Act} {Q : Exit → Act → World → Prop}
    (hgd : o.guard = none) (s x : Operand) (t : TypeId) (ho : o.op = .call { callee := .builtin .append, args := #[s, x], argTypes := #[t, t] })
    (v xv : Value) (hs : a.eval s = v) (hx : a.eval x = xv) {v' : Value} {w' : World} (hr : (Builtin.append_ #[t, t] o.type #[v, xv]).run P w = .ok v' w') (h : wpList P ops Q rest (a.put o.dst v') w') :
    wpList P ops Q (o :: rest) a w := by
  refine wpList_plain hgd fun K hK => ?_
  unfold Oper.wp
  simp [execOp, ho, resolve, invoke, builtin, hs, hx, hr, Result.andThen]
  exact hK _ _ h
theorem Cn.push {w : World} {v : Value} {P : List (Int × Int)} {N : Nat} (h : Cn w v P) (ho : ∀ k, v.ownBlock = some k → N ≤ k) (hN : N ≤ w.heap.size) (x y : Int) (hlen : P.length ≤ 20000) :
    ∃ v' w', (Builtin.append_ #[27, 27] 27 #[v, .slice (some ⟨w.heap.size, 0, none⟩) 1 1]).run Try.prog (w.alloc (.cells #[.int .i64 x, .int .i64 y] 23)) = .ok v' w' ∧ (∃ a n c, v' = .slice a n c) ∧ Cn w' v' (P ++ [(x, y)]) ∧ (∀ k, v'.ownBlock = some k → N ≤ k) ∧ Below N w w' := by
  obtain ⟨v', Y, r1, n1, g1, o1⟩ := h.append x y hlen
  have b1 := box1 w (.cells #[.int .i64 x, .int .i64 y] 23)
  have T1 : Turns (fun k => v.ownBlock = some k) w Y := (Turns.of_below b1).trans ((Turns.of_grown (S := fun k => v.ownBlock = some k) g1 (fun k e => e)).mono (fun k _ e => .inl e))
  refine ⟨v', Y, r1, n1.slice, n1, fun k e => ?_, T1.below ho hN⟩
  rcases o1 with q | ⟨k', q, hk⟩
  · exact ho k (q ▸ e)
  · rw [q] at e; cases e; omega
theorem mtV_form (x y a b p q c d : Int) : ∃ s t u v : Int, mtV x y a b p q c d = rct s t u v := by
  unfold mtV
  split
  · exact ⟨_, _, _, _, rfl⟩
  · exact ⟨0, 0, 0, 0, rfl⟩
/-- What is left of near when a cell has been looked at. -/
theorem nrI_is {wd : Nat} {x y a b cx cy : Int} {i u v : Nat} (hu : i % wd = u) (hv : i / wd = v) : nrI wd x y a b cx cy i = (mtB (u : Int) (v : Int) 4 4 x y a b && (decide (apK ((u : Int) / 8) cx ≤ 1) && decide (apK ((v : Int) / 8) cy ≤ 1))) := by
  subst hu; subst hv; rfl
set_option maxRecDepth 100000 in
set_option maxHeartbeats 4000000 in
theorem dtouched_no {w : World} {W H : Int} (x y a b : Int) (h : wi x y a b 0 0 W H = false) :
    Calls Try.prog 14 #[.int .i64 W, .int .i64 H, rct x y a b] w fun e w' => e = .returned (.slice none 0 0) ∧ Below w.heap.size w w' := by
  obtain ⟨X, hX⟩ : ∃ X, w.alloc (.cells #[.int .i64 x, .int .i64 y, .int .i64 a, .int .i64 b] 35) = X := ⟨_, rfl⟩
  have B0 : Below w.heap.size w X := by rw [← hX]; exact box1 _ _
  have F0 : Four X w.heap.size x y a b := by rw [← hX]; exact cells4 (Below.refl _ _)
  have HI := hide (refwithin_is X h)
  obtain ⟨⟨c0, c1, c2, c3⟩, -, -⟩ := id F0
  clear h
  go_enter Try.func14, Try.ntmps14
  go_wp2_with fail
  clear hX
  refine HI.out.mono ?_
  rintro e w1 ⟨rfl, hb1⟩
  have HB := hide (bt B0 hb1)
  clear c0 c1 c2 c3 HI hb1 B0
  go_wp2_with fail
  go_ret
  exact ⟨rfl, HB.out⟩
/-- What the loops keep: the list so far, in memory of the call's own. -/
def Stt (X wr : World) (v : Value) (L : List (Int × Int)) : Prop := (∃ a n c, v = .slice a n c) ∧ Cn wr v L ∧ (∀ k, v.ownBlock = some k → X.heap.size ≤ k) ∧ Below X.heap.size X wr
theorem Stt.kept {X w w' : World} {v : Value} {L : List (Int × Int)} (h : Stt X w v L) (hb : Below w.heap.size w w') : Stt X w' v L := ⟨h.1, h.2.1.kept hb, h.2.2.1, h.2.2.2.trans (hb.mono h.2.2.2.size)⟩
set_option maxRecDepth 100000 in
set_option maxHeartbeats 8000000 in
theorem dtouched_yes {w : World} (wd ht KW KH : Nat) (x y a b : Int) (hw : 1 ≤ wd ∧ wd ≤ 128) (hh : 1 ≤ ht ∧ ht ≤ 128) (hK : KW = (wd + 7) / 8) (hK' : KH = (ht + 7) / 8) (h : wi x y a b 0 0 (wd : Int) (ht : Int) = true) :
    Calls Try.prog 14 #[.int .i64 (wd : Nat), .int .i64 (ht : Nat), rct x y a b] w fun e w' => ∃ v, e = .returned v ∧ Cn w' v (docL wd (wd * ht) x y a b KW KH) ∧ Below w.heap.size w w' := by
  obtain ⟨X, hX⟩ : ∃ X, w.alloc (.cells #[.int .i64 x, .int .i64 y, .int .i64 a, .int .i64 b] 35) = X := ⟨_, rfl⟩
  have B0 : Below w.heap.size w X := by rw [← hX]; exact box1 _ _
  have F0 : Four X w.heap.size x y a b := by rw [← hX]; exact cells4 (Below.refl _ _)
  have HI := hide (refwithin_is X h)
  obtain ⟨⟨c0, c1, c2, c3⟩, -, zF⟩ := id F0
  have hKW : 1 ≤ KW ∧ KW ≤ 16 := by omega
  have hKH : 1 ≤ KH ∧ KH ≤ 16 := by omega
  have HD1 : Hid (∀ wx, Calls Try.prog 16 #[.int .i64 ((wd : Nat) - 1 : Int)] wx fun e w' => e = .returned (.int .i64 ((KW : Nat) - 1 : Int)) ∧ w' = wx) := hide fun wx => by
    have := down_any ((wd : Nat) - 1 : Int) (w64_of (by omega)) wx
    rwa [show ((wd : Nat) - 1 : Int) / 8 = ((KW : Nat) - 1 : Int) by omega] at this
  have HD2 : Hid (∀ wx, Calls Try.prog 16 #[.int .i64 ((ht : Nat) - 1 : Int)] wx fun e w' => e = .returned (.int .i64 ((KH : Nat) - 1 : Int)) ∧ w' = wx) := hide fun wx => by
    have := down_any ((ht : Nat) - 1 : Int) (w64_of (by omega)) wx
    rwa [show ((ht : Nat) - 1 : Int) / 8 = ((KH : Nat) - 1 : Int) by omega] at this
  obtain ⟨N, hN⟩ : ∃ N, wd * ht = N := ⟨_, rfl⟩
  have hNi : ((wd : Nat) : Int) * ((ht : Nat) : Int) = (N : Nat) := by rw [← hN]; push_cast; rfl
  have hN2 : N ≤ 16384 := by have := Nat.mul_le_mul hw.2 hh.2; omega
  have HNN := hide hN
  rw [hN]
  have HKK := hide (And.intro hK hK')
  clear h hK hK' hN
  have hwi : (1 : Int) ≤ (wd : Nat) ∧ ((wd : Nat) : Int) ≤ 128 := by omega
  have hhi : (1 : Int) ≤ (ht : Nat) ∧ ((ht : Nat) : Int) ≤ 128 := by omega
  go_enter Try.func14, Try.ntmps14
  go_wp2_with fail
  have zX : X.heap.size = w.heap.size + 1 := by rw [← hX]; simp
  clear hX
  refine HI.out.mono ?_
  rintro e w1 ⟨rfl, hb1⟩
  clear c0 c1 c2 c3 HI
  obtain ⟨w2, h2⟩ : ∃ w2, w1.alloc (.cells #[] 23) = w2 := ⟨_, rfl⟩
  have B2 : Below X.heap.size X w2 := bt hb1 (by rw [← h2]; exact box1 _ _)
  have C2 : Cn w2 (.slice (some ⟨w1.heap.size, 0, none⟩) 0 0) [] := by
    rw [← h2]
    exact World.ownsRow_made w1 #[] 0 (Nat.zero_le _) (by decide) rfl
  have hs1 := hb1.size
  clear hb1
  go_wp2_with fail
  clear h2
  have S2 : Stt X w2 (.slice (some ⟨w1.heap.size, 0, none⟩) 0 0) [] := ⟨⟨_, _, _, rfl⟩, C2, fun k e => by simp [Value.ownBlock] at e; omega, B2⟩
  clear C2 B2
  go_loopw [7, 8] (fun s7 s8 wr => ∃ j : Nat, j ≤ KH ∧ s8 = .int .i64 (j : Nat) ∧ Stt X wr s7 (docL wd N x y a b KW j)) (fun s7 s8 _ => KH - (intOf s8).toNat)
  case atStart => exact ⟨0, Nat.zero_le _, rfl, S2⟩
  case round =>
    obtain ⟨j, hj, rfl, hS⟩ := hrel
    rename World => wo
    obtain ⟨⟨a7, n7, c7, rfl⟩, -⟩ := id hS
    by_cases hlt : j < KH
    · have hji : ((j : Nat) : Int) ≤ ((KH : Nat) : Int) - 1 := by omega
      go_wp2_with (go_at_call 16; refine (HD2.out _).mono ?_; rintro e w' ⟨rfl, rfl⟩)
      go_loopw [7, 9] (fun s7 s9 wr => ∃ k : Nat, k ≤ KW ∧ s9 = .int .i64 (k : Nat) ∧ Stt X wr s7 (docL wd N x y a b KW j ++ rowL wd N x y a b j k)) (fun s7 s9 _ => KW - (intOf s9).toNat)
      case atStart => exact ⟨0, Nat.zero_le _, rfl, by rw [rowL_zero, List.append_nil]; exact hS⟩
      case round =>
        obtain ⟨k, hk, rfl, hS2⟩ := hrel
        obtain ⟨⟨a8, n8, c8, rfl⟩, -⟩ := id hS2
        by_cases hkt : k < KW
        · have hki : ((k : Nat) : Int) ≤ ((KW : Nat) : Int) - 1 := by omega
          go_wp2_with (go_at_call 16; refine (HD1.out _).mono ?_; rintro e w' ⟨rfl, rfl⟩)
          rename World => wq
          obtain ⟨Lq, hLq⟩ : ∃ Lq, docL wd N x y a b KW j ++ rowL wd N x y a b j k = Lq := ⟨_, rfl⟩
          have HLq := hide hLq
          rw [hLq] at hS2
          clear hLq
          have HSo := hide hS
          have HSq := hide hS2
          have Fq := F0.kept hS2.2.2.2
          clear hS hS2
          go_loopw [10, 11] (fun s10 s11 wr => ∃ i : Nat, i ≤ N ∧ s11 = .int .i64 (i : Nat) ∧ s10 = .bool (nrB wd i x y a b (k : Nat) (j : Nat)) ∧ Below wq.heap.size wq wr) (fun s10 s11 _ => N - (intOf s11).toNat)
          case atStart => exact ⟨0, Nat.zero_le _, rfl, by rw [nrB_zero], Below.refl _ _⟩
          case round =>
            obtain ⟨i, hi, rfl, rfl, hBi⟩ := hrel
            by_cases hit : i < N
            · have hii : ((i : Nat) : Int) < ((N : Nat) : Int) := by omega
              obtain ⟨u, hu⟩ : ∃ u, i % wd = u := ⟨_, rfl⟩
              obtain ⟨v, hv⟩ : ∃ v, i / wd = v := ⟨_, rfl⟩
              have hul : u < wd := by rw [← hu]; exact Nat.mod_lt _ (by omega)
              have hvl : v < ht := by rw [← hv, Nat.div_lt_iff_lt_mul (by omega), Nat.mul_comm, HNN.out]; exact hit
              have em : Int.tmod ((i : Nat) : Int) ((wd : Nat) : Int) = ((u : Nat) : Int) := by rw [← hu]; exact (Int.ofNat_tmod i wd).symm
              have ed : Int.tdiv ((i : Nat) : Int) ((wd : Nat) : Int) = ((v : Nat) : Int) := by rw [← hv]; exact (Int.ofNat_tdiv i wd).symm
              have HnI := hide (nrI_is (x := x) (y := y) (a := a) (b := b) (cx := ((k : Nat) : Int)) (cy := ((j : Nat) : Int)) hu hv)
              clear hu hv
              have HnS := hide (nrB_succ wd i x y a b ((k : Nat) : Int) ((j : Nat) : Int))
              generalize hb0 : nrB wd i x y a b ((k : Nat) : Int) ((j : Nat) : Int) = b0 at HnS ⊢
              clear hb0
              have HMe := hide (refmeet_any ((u : Nat) : Int) ((v : Nat) : Int) 4 4 x y a b)
              obtain ⟨m1, m2, m3, m4, hmv⟩ := mtV_form ((u : Nat) : Int) ((v : Nat) : Int) 4 4 x y a b
              rw [hmv] at HMe
              clear hmv
              generalize mtB ((u : Nat) : Int) ((v : Nat) : Int) 4 4 x y a b = bm at HMe HnI
              have HOf := hide (refof_any ((u : Nat) : Int) ((v : Nat) : Int) (w64_of (by omega)) (w64_of (by omega)))
              have HA1 := hide (fun wx => refapart_any (((u : Nat) : Int) / 8) ((k : Nat) : Int) wx (by unfold smallK; omega) (by unfold smallK; omega))
              have HA2 := hide (fun wx => refapart_any (((v : Nat) : Int) / 8) ((j : Nat) : Int) wx (by unfold smallK; omega) (by unfold smallK; omega))
              generalize apK (((u : Nat) : Int) / 8) ((k : Nat) : Int) = d1 at HnI HA1
              generalize apK (((v : Nat) : Int) / 8) ((j : Nat) : Int) = d2 at HnI HA2
              generalize ((u : Nat) : Int) / 8 = u8 at HOf HA1
              generalize ((v : Nat) : Int) / 8 = v8 at HOf HA2
              have hub : (0 : Int) ≤ ((u : Nat) : Int) ∧ ((u : Nat) : Int) ≤ 128 := by omega
              have hvb : (0 : Int) ≤ ((v : Nat) : Int) ∧ ((v : Nat) : Int) ≤ 128 := by omega
              clear hul hvl
              generalize ((u : Nat) : Int) = ui at em HMe HOf hub
              generalize ((v : Nat) : Int) = vi at ed HMe HOf hvb
              have hw0 : ¬ ((wd : Nat) : Int) = 0 := by omega
              have hw0' : ¬ wd = 0 := by omega
              have ewv : IntKind.i64.wrap vi = vi := by rw [IntKind.wrap_i64]; omega
              have Fr := Fq.kept hBi
              go_wp2_with fail
              go_region_held3 (fun w' => True) (trivial) (fail)
              dsimp only [Exit.then]
              try rw [ewv]
              obtain ⟨wa, hwa⟩ : ∃ wa, (wr.alloc (.cells #[.int .i64 ui, .int .i64 vi] 23)).drew = wa := ⟨_, rfl⟩
              have Ba : Below wr.heap.size wr wa := by rw [← hwa]; exact (box1 _ _).drew
              have Ta : Two wa wr.heap.size ui vi := by
                have h1 : Two (wr.alloc (.cells #[.int .i64 ui, .int .i64 vi] 23)) wr.heap.size ui vi := Two.newAt rfl
                rw [← hwa]
                exact h1.kept (Below.refl _ _).drew
              rw [hwa]
              have Fa := Fr.kept Ba
              have HBa := hide (bt hBi Ba)
              clear hwa Ba Fr hBi
              obtain ⟨⟨t0, t1⟩, -, -⟩ := id Ta
              go_wp2_with fail
              refine (HOf.out wa).mono ?_
              rintro e wb ⟨rfl, hbb⟩
              obtain ⟨wc, hwc⟩ : ∃ wc, wb.alloc (.cells #[.int .i64 u8, .int .i64 v8] 23) = wc := ⟨_, rfl⟩
              have Bc : Below wa.heap.size wa wc := bt hbb (by rw [← hwc]; exact box1 _ _)
              have Tc : Two wc wb.heap.size u8 v8 := by rw [← hwc]; exact Two.newAt rfl
              have Tac := Ta.kept Bc
              have Fc := Fa.kept Bc
              have HBc := hide (bt HBa.out Bc)
              clear Bc hbb HOf t0 t1 Ta Fa HBa
              obtain ⟨⟨t0, t1⟩, -, -⟩ := id Tac
              obtain ⟨⟨c0, c1, c2, c3⟩, -, -⟩ := id Fc
              go_wp2_with fail
              clear hwc
              refine (HMe.out wc).mono ?_
              rintro e wd2 ⟨rfl, hbd⟩
              obtain ⟨we, hwe⟩ : ∃ we, wd2.alloc (.cells #[.int .i64 m1, .int .i64 m2, .int .i64 m3, .int .i64 m4] 35) = we := ⟨_, rfl⟩
              have Be : Below wc.heap.size wc we := bt hbd (by rw [← hwe]; exact box1 _ _)
              have Te := Tc.kept Be
              have HBe := hide (bt HBc.out Be)
              clear Be hbd HMe t0 t1 Tac c0 c1 c2 c3 Fc HBc Tc
              obtain ⟨⟨t0, t1⟩, -, -⟩ := id Te
              have hkk : IntKind.i64.wrap (((i : Nat) : Int) + 1) = ((i : Nat) : Int) + 1 := by rw [IntKind.wrap_i64]; omega
              have HNX := hide (HnS.out.trans (by rw [HnI.out]))
              clear HnS HnI
              by_cases h1 : d1 ≤ 1
              all_goals by_cases h2 : d2 ≤ 1
              all_goals cases b0
              all_goals cases bm
              all_goals
                go_wp2_with (first | (go_at_call_of 21 u8; refine (HA1.out _).mono ?_; rintro e w' ⟨rfl, rfl⟩) | (go_at_call_of 21 v8; refine (HA2.out _).mono ?_; rintro e w' ⟨rfl, rfl⟩))
                go_roundw
                case rel => exact ⟨i + 1, by omega, by push_cast; rfl, by rw [HNX.out]; simp [h1, h2], HBe.out⟩
                case measure => simp [intOf]; omega
            · obtain rfl : i = N := by omega
              have hii : ¬ ((i : Nat) : Int) < ((i : Nat) : Int) := by omega
              have S3 := HSq.out.kept hBi
              have hlen : Lq.length ≤ 20000 := by
                rw [← HLq.out, List.length_append]
                have h1 := docL_len wd i x y a b KW j
                have h2 := rowL_len wd i x y a b j k
                have h3 := Nat.mul_le_mul hKW.2 (show j ≤ 16 by omega)
                omega
              have HR := hide (rowL_succ wd i x y a b j k)
              generalize hnb : nrB wd i x y a b ((k : Nat) : Int) ((j : Nat) : Int) = bn at HR ⊢
              clear hnb
              have hkk : IntKind.i64.wrap (((k : Nat) : Int) + 1) = ((k : Nat) : Int) + 1 := by rw [IntKind.wrap_i64]; omega
              cases bn
              · have HS3 := hide S3
                clear S3 hBi
                go_wp2_with fail
                go_roundw
                case rel => exact ⟨k + 1, by omega, by push_cast; rfl, by rw [HR.out]; simp only [Bool.false_eq_true, if_false, List.append_nil]; rw [HLq.out]; exact HS3.out⟩
                case measure => simp [intOf]; omega
              · obtain ⟨-, hC, ho, hBX⟩ := S3
                obtain ⟨v9, w9, r9, ⟨q1, q2, q3, rfl⟩, hC9, ho9, hB9⟩ := hC.push ho hBX.size ((k : Nat) : Int) ((j : Nat) : Int) hlen
                have HS9 : Hid (Stt X w9 (.slice q1 q2 q3) (Lq ++ [(((k : Nat) : Int), ((j : Nat) : Int))])) := hide ⟨⟨_, _, _, rfl⟩, hC9, ho9, hBX.trans hB9⟩
                have HA := hide r9
                clear hC ho hBX r9 hC9 ho9 hB9 hBi
                go_wp2_with (at_builtin; refine wpList_append_run rfl _ _ 27 rfl _ _ rfl rfl HA.out ?_)
                go_roundw
                case rel => exact ⟨k + 1, by omega, by push_cast; rfl, by rw [HR.out]; simp only [if_true]; rw [← List.append_assoc, HLq.out]; exact HS9.out⟩
                case measure => simp [intOf]; omega
        · obtain rfl : k = KW := by omega
          have hki : ¬ ((k : Nat) : Int) ≤ ((k : Nat) : Int) - 1 := by omega
          have hjj : IntKind.i64.wrap (((j : Nat) : Int) + 1) = ((j : Nat) : Int) + 1 := by rw [IntKind.wrap_i64]; omega
          rw [← docL_succ] at hS2
          have HS2 := hide hS2
          clear hS2 hS
          go_wp2_with (go_at_call 16; refine (HD1.out _).mono ?_; rintro e w' ⟨rfl, rfl⟩)
          go_roundw
          case rel => exact ⟨j + 1, by omega, by push_cast; rfl, HS2.out⟩
          case measure => simp [intOf]; omega
    · obtain rfl : j = KH := by omega
      have hji : ¬ ((j : Nat) : Int) ≤ ((j : Nat) : Int) - 1 := by omega
      have HS := hide hS
      clear hS
      go_wp2_with (go_at_call 16; refine (HD2.out _).mono ?_; rintro e w' ⟨rfl, rfl⟩)
      go_ret
      exact ⟨_, rfl, HS.out.2.1, bt B0 HS.out.2.2.2⟩
end Go.Proofs.Ytpikfplmghofbaa
