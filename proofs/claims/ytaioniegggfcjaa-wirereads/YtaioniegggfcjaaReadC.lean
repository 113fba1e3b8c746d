/-
  'reads' at a number that is at most another.
-/
import Derived.Test.YtaioniegggfcjaaReadBoth
import Derived.Deep.RegionHeld3
namespace Go.Proofs.Ytaioniegggfcjaa
open Go.RowKit
set_option linter.unusedVariables false
theorem same_drew1 (w : World) : Same w w.drew := ⟨rfl, rfl, rfl, rfl⟩
set_option maxHeartbeats 2000000 in
theorem reads_5 (w : World) (B gp gr : Nat) (l : List Nat) (k e : Nat) (x1 x3 : Int) (sa : Option Addr) (sn sc : Nat) (hp : Rd w gp l k e) (hr : Rd w gr l k e) (hne : gp ≠ gr) (hBp : B ≤ gp) (hBr : B ≤ gr) (hB : B ≤ w.heap.size) (hx3 : -9223372036854775808 ≤ x3 ∧ x3 ≤ 9223372036854775807) :
    Calls Try.prog 12 #[.pointer (some ⟨gp, 0, none⟩), .pointer (some ⟨gr, 0, none⟩), .agg #[.int .i64 5, .int .u64 x1, .slice sa sn sc, .int .i64 x3]] w (ReadOn w B gp gr l) := by
  obtain ⟨W, hW⟩ := box_is w 5 x1 x3 sa sn sc
  have hBox : Below B w W := hW.below.mono hB
  have hBW : B ≤ W.heap.size := Nat.le_trans hB hW.below.size
  have hp0 := hp.keptBy (below_grown hW.below) rfl
  have hr0 := hr.keptBy (below_grown hW.below) rfl
  have HW := hide hW
  have Hp0 := hide hp0
  have Hr0 := hide hr0
  have Hfin := hide (fun (w1 w2 : World) (k' e' : Nat) (h1 : Rd w1 gp l k' e') (g1 : W.grownBy w1 (some gp)) (h2 : Rd w2 gr l k' e') (g2 : w1.grownBy w2 (some gr)) => read_end hBox hBW hp0 hr0 hne hBp hBr h1 g1 h2 g2)
  have Hr1 := hide (fun (w1 : World) (g1 : W.grownBy w1 (some gp)) => hr0.apart hp0 g1 hne.symm)
  have c3 : W.cell? ⟨w.heap.size, 3, none⟩ = some (.int .i64 x3) := by rw [hW.eq]; go_simp
  have hgp : w.heap.size ≠ gp := fun h => by have := hp.1.1; omega
  have hgr : w.heap.size ≠ gr := fun h => by have := hr.1.1; omega
  have Hk1 := hide (fun (w1 : World) (g1 : W.drew.grownBy w1 (some gp)) => g1.cell (a := ⟨w.heap.size, 3, none⟩) (v := .int .i64 x3) c3 (by simp; exact hgp))
  have Hk2 := hide (fun (w1 w2 : World) (g1 : W.drew.grownBy w1 (some gp)) (g2 : w1.grownBy w2 (some gr)) => g2.cell (a := ⟨w.heap.size, 3, none⟩) (Hk1.out w1 g1) (by simp; exact hgr))
  have HD : Hid (∀ w1, W.drew.grownBy w1 (some gp) → W.grownBy w1 (some gp)) := fun w1 h => grown_trans ((same_drew1 W).grown _) h
  have Hc1 := hide (numb_any W.drew gp l k e x3 (hp0.same (same_drew1 W)) hx3)
  have Hc2 := hide (fun (w1 : World) (g1 : W.grownBy w1 (some gp)) => refno_any w1 gr l k e x3 (Hr1.out w1 g1) hx3)
  generalize ((noN l k e x3 : Nat) : Int) = N at *
  clear hW hBox hBW hp hr hp0 hr0 hne hBp hBr hB hgp hgr
  go_enter Try.func12, Try.ntmps12
  go_wp2_with fail
  rw [← HW.out.eq]
  go_region_held3 (fun w' => w'.cell? ⟨w.heap.size, 3, none⟩ = some (.int .i64 x3))
    (first | exact c3 | exact Hk1.out _ g1 | exact Hk2.out _ _ g1 g2)
    (first
      | (go_at_call 24; refine Hc1.out.mono ?_; rintro x w1 ⟨rfl, h1, g1⟩)
      | (go_at_call 35; refine (Hc2.out _ (HD.out _ g1)).mono ?_; rintro x w2 ⟨rfl, h2, g2⟩))
  all_goals
    obtain ⟨f1, f2, f3⟩ := Hfin.out _ _ _ _ h1 (HD.out _ g1) h2 g2
    clear h1 g1 h2 g2
    have hL := f2.bytes
    have ce := f2.err
    obtain ⟨cp, _, cz, cz0⟩ := f2.cells
    obtain ⟨⟨-, -⟩, -, -, -, -, -, sv, cs, hbs⟩ := id f2
    obtain ⟨a, cap, rfl, hcc, _⟩ := hbs.sl
    have hle : ((noK l k e x3 : Nat) : Int) ≤ l.length := by omega
    have hl5 : (l.length : Int) ≤ 140737488355328 := by omega
    have el : ((l.length - noK l k e x3 : Nat) : Int) = (l.length : Int) - ((noK l k e x3 : Nat) : Int) := by omega
    have F1 := hide f1
    have F2 := hide f2
    have F3 := hide f3
    have L1 := left_q
    have Hleft := hide (fun (q : Nat) => (left_q (w2.drewN q) gp l _ _ (F1.out.same (same_drewN w2 q))))
    rw [el] at Hleft
    clear f1 f2 f3 hbs hL L1 el
    generalize hKK : ((noK l k e x3 : Nat) : Int) = KK at *
    generalize hEE : ((noE l k e x3 : Nat) : Int) = EE at *
    go_wp2_with fail
    go_quiet (first
      | exact (err_any _ gp l _ _ (F1.out.same (same_drewN _ _))).mono (by rintro e wz ⟨rfl, rfl⟩; exact ⟨congrArg _ (congrArg _ hEE), _, rfl⟩)
      | exact (Hleft.out _).mono (by rintro e wz ⟨rfl, q, rfl⟩; exact ⟨rfl, drewN_more _ _ _⟩)
      | exact (done_q _ gp l _ _ (F1.out.same (same_drewN _ _))).mono (by rintro e wz ⟨rfl, q, rfl⟩; exact ⟨rfl, drewN_more _ _ _⟩)
      | exact (refdone_any _ gr l _ _ (F2.out.same (same_drewN _ _))).mono (by rintro e wz ⟨rfl, q, rfl⟩; exact ⟨rfl, drewN_more _ _ _⟩)
      | fail)
    go_wp2_with fail
    go_ret
    exact ⟨rfl, _, _, F1.out.same (same_drewN _ _), F2.out.same (same_drewN _ _), F3.out.trans ((same_drewN _ _).below _)⟩
end Go.Proofs.Ytaioniegggfcjaa
