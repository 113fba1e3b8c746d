/-
  'reads' at a number without sign.
-/
import Derived.Test.YtaioniegggfcjaaReadBoth
namespace Go.Proofs.Ytaioniegggfcjaa
open Go.RowKit
set_option linter.unusedVariables false
set_option maxHeartbeats 2000000 in
theorem reads_0 (w : World) (B gp gr : Nat) (l : List Nat) (k e : Nat) (x1 x3 : Int) (sa : Option Addr) (sn sc : Nat) (hp : Rd w gp l k e) (hr : Rd w gr l k e) (hne : gp ≠ gr) (hBp : B ≤ gp) (hBr : B ≤ gr) (hB : B ≤ w.heap.size) :
    Calls Try.prog 12 #[.pointer (some ⟨gp, 0, none⟩), .pointer (some ⟨gr, 0, none⟩), .agg #[.int .i64 0, .int .u64 x1, .slice sa sn sc, .int .i64 x3]] w (ReadOn w B gp gr l) := by
  obtain ⟨W, hW⟩ := box_is w 0 x1 x3 sa sn sc
  have hBox : Below B w W := hW.below.mono hB
  have hBW : B ≤ W.heap.size := Nat.le_trans hB hW.below.size
  have hp0 := hp.keptBy (below_grown hW.below) rfl
  have hr0 := hr.keptBy (below_grown hW.below) rfl
  have HW := hide hW
  have Hp0 := hide hp0
  have Hr0 := hide hr0
  have Hfin := hide (fun (w1 w2 : World) (k' e' : Nat) (h1 : Rd w1 gp l k' e') (g1 : W.grownBy w1 (some gp)) (h2 : Rd w2 gr l k' e') (g2 : w1.grownBy w2 (some gr)) => read_end hBox hBW hp0 hr0 hne hBp hBr h1 g1 h2 g2)
  have Hr1 := hide (fun (w1 : World) (g1 : W.grownBy w1 (some gp)) => hr0.apart hp0 g1 hne.symm)
  have Hc1 := hide (uv_any W gp l k e hp0)
  have Hc2 := hide (fun (w1 : World) (g1 : W.grownBy w1 (some gp)) => refruv_any w1 gr l k e (Hr1.out w1 g1))
  generalize ((numN (restOf l k e) : Nat) : Int) = N at *
  clear hW hBox hBW hp hr hp0 hr0 hne hBp hBr hB
  go_enter Try.func12, Try.ntmps12
  go_wp2_with fail
  rw [← HW.out.eq]
  refine Hc1.out.mono ?_; rintro x w1 ⟨rfl, h1, g1⟩
  have H1 := hide h1
  have G1 := hide g1
  clear h1 g1
  go_wp2_with fail
  refine (Hc2.out _ G1.out).mono ?_; rintro x w2 ⟨rfl, h2, g2⟩
  obtain ⟨f1, f2, f3⟩ := Hfin.out _ _ _ _ H1.out G1.out h2 g2
  clear h2 g2
  have hL := f2.bytes
  have ce := f2.err
  obtain ⟨cp, _, cz, cz0⟩ := f2.cells
  obtain ⟨⟨-, -⟩, -, -, -, -, -, sv, cs, hbs⟩ := id f2
  obtain ⟨a, cap, rfl, hcc, _⟩ := hbs.sl
  have hle : ((stand l k e : Nat) : Int) ≤ l.length := by omega
  have hl5 : (l.length : Int) ≤ 140737488355328 := by omega
  have el : ((l.length - stand l k e : Nat) : Int) = (l.length : Int) - ((stand l k e : Nat) : Int) := by omega
  have F1 := hide f1
  have F2 := hide f2
  have F3 := hide f3
  have L1 := left_q
  have Hleft := hide (fun (q : Nat) => (left_q (w2.drewN q) gp l _ _ (F1.out.same (same_drewN w2 q))))
  rw [el] at Hleft
  clear f1 f2 f3 hbs hL L1 el
  generalize hKK : ((stand l k e : Nat) : Int) = KK at *
  generalize hEE : ((bad l k e : Nat) : Int) = EE at *
  go_wp2_with fail
  go_quiet (first
    | exact (err_any _ gp l _ _ (F1.out.same (same_drewN _ _))).mono (by rintro e wz ⟨rfl, rfl⟩; exact ⟨congrArg _ (congrArg _ hEE), _, rfl⟩)
    | exact (Hleft.out _).mono (by rintro e wz ⟨rfl, q, rfl⟩; exact ⟨rfl, drewN_more _ _ _⟩)
    | exact (done_q _ gp l _ _ (F1.out.same (same_drewN _ _))).mono (by rintro e wz ⟨rfl, q, rfl⟩; exact ⟨rfl, drewN_more _ _ _⟩)
    | exact (refdone_any _ gr l _ _ (F2.out.same (same_drewN _ _))).mono (by rintro e wz ⟨rfl, q, rfl⟩; exact ⟨rfl, drewN_more _ _ _⟩)
    | fail)
  go_wp2_with fail
  go_ret
  exact ⟨rfl, _, _, F1.out.same (same_drewN _ _), F2.out.same (same_drewN _ _), F3.out.trans ((same_drewN _ _).below _)⟩
end Go.Proofs.Ytaioniegggfcjaa
