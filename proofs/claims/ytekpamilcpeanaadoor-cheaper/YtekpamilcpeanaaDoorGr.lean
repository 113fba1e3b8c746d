/-
  The document's ground, told by the world; two lists of cells held against one another. Smooth of a world; whether a corner is cut on a plain.
-/
import Derived.Test.YtekpamilcpeanaaDoorDSm
import Derived.Test.YtekpamilcpeanaaDoorCSteps
import Derived.Test.YtekpamilcpeanaaDoorAwake
namespace Go.Proofs.YtekpamilcpeanaaDoor
open Go.RowKit Go.Shelf
set_option linter.unusedVariables false
set_option linter.unusedSimpArgs false
theorem st_has {W H : Int} {tl : List Nat} {f : Int → Int → Option Int} {c s u v : Int} (h : stB W H tl f c s u v = true) : has 0 0 W H u v = true := by
  simp only [stB, stU, wi, Bool.and_eq_true] at h
  obtain ⟨⟨hm, h1, -⟩, -⟩ := h
  cases hb : fB c s u v
  · rw [fi_no hb] at hm
    have := ((may_iff _ _ _ _).1 hm).2.1
    rw [fi_no hb] at this
    omega
  · rw [fi_yes hb, fi_yes hb] at h1
    exact h1
theorem st_in {W H : Int} {tl : List Nat} {f : Int → Int → Option Int} {c s : Int} (hW : 1 ≤ W ∧ W ≤ 128) (hH : 1 ≤ H ∧ H ≤ 128) (u v : Int) (h : stB W H tl f c s u v = true) : (0 ≤ u ∧ u < W) ∧ 0 ≤ v ∧ v < H := by
  have := (has_iff _ _ _ _ _ _).1 (st_has h)
  omega
theorem dims_is {W H : Int} {tl : List Nat} {L : List Bd} (hc : chkC W H tl L = 0) : ∃ wd ht : Nat, W = (wd : Int) ∧ H = (ht : Int) ∧ (1 ≤ wd ∧ wd ≤ 128) ∧ 1 ≤ ht ∧ ht ≤ 128 := by
  have h := (chkC_zero hc).1
  simp only [mt, gs, Bool.and_eq_true, decide_eq_true_eq] at h
  exact ⟨W.toNat, H.toNat, by omega, by omega, by omega, by omega⟩
theorem gS_st {wd ht : Nat} {tl : List Nat} {f : Int → Int → Option Int} {c s : Int} (hd : (1 ≤ wd ∧ wd ≤ 128) ∧ 1 ≤ ht ∧ ht ≤ 128) :
    gS wd ht (fun k => stB wd ht tl f c s ((k % wd : Nat) : Int) ((k / wd : Nat) : Int)) = stB wd ht tl f c s := by
  funext x y
  unfold gS
  by_cases h : (0 ≤ x ∧ x < (wd : Nat)) ∧ 0 ≤ y ∧ y < (ht : Nat)
  · rw [decide_eq_true h, Bool.true_and]
    have e := idx_mod (w := wd) (x := x.toNat) (y := y.toNat) (by omega)
    simp only [e.1, e.2]
    rw [Int.toNat_of_nonneg h.1.1, Int.toNat_of_nonneg h.2.1]
  · rw [decide_eq_false h, Bool.false_and]
    cases hs : stB wd ht tl f c s x y
    · rfl
    · exact absurd (st_in (by omega) (by omega) x y hs) h
/-- What the document's Steps tells. -/
theorem dst_is {w : World} {wd ht N : Nat} {tl : List Nat} {f : Int → Int → Option Int} {c s : Int} {a : Option Addr} {n cap : Nat} (hd : (1 ≤ wd ∧ wd ≤ 128) ∧ 1 ≤ ht ∧ ht ≤ 128) (hN : N = wd * ht)
    (h : Rw 4 1 cB w (.slice a n cap) ((List.range N).map (fun k => stB wd ht tl f c s ((k % wd : Nat) : Int) ((k / wd : Nat) : Int)))) (d : Int) :
    ∀ wx, Below w.heap.size w wx → ∀ x y, Calls Tryd.prog 50 #[gdv wd ht (.slice a n cap), cel x y, .int .i64 d] wx fun e w' => e = .returned (.tuple #[cel (if lg (stB wd ht tl f c s) x y d = true then sX x y d else 0) (if lg (stB wd ht tl f c s) x y d = true then sY x y d else 0), .bool (lg (stB wd ht tl f c s) x y d)]) ∧ Below wx.heap.size wx w' := fun wx q x y => by
  have h1 := gsteps_of (w := wx) (wd := wd) (ht := ht) (iv := .slice a n cap) (gS wd ht (fun k => stB wd ht tl f c s ((k % wd : Nat) : Int) ((k / wd : Nat) : Int))) x y d a n cap rfl (fun wy k u v => gstands_any u v (show Gd wy wd ht N _ _ from (h.upto q).upto k) ⟨hd.1.2, hd.2.2⟩ hN)
  rwa [gS_st hd] at h1
set_option maxHeartbeats 4000000 in
theorem refcells_yes (va vb : Value) (P : List (Int × Int)) (w : World) (ha : CeR w va P) (hb : CeR w vb P) : Calls Tryd.prog 10 #[va, vb] w fun e w' => e = .returned (.bool true) ∧ Below w.heap.size w w' := by
  have ha' := ha
  have hb' := hb
  obtain ⟨a, cap, rfl, hcap, hmax, -, -⟩ := ha'
  obtain ⟨b, capb, rfl, hcapb, -, -, -⟩ := hb'
  have hl63 : (0 : Int) ≤ (P.length : Nat) ∧ ((P.length : Nat) : Int) ≤ 9223372036854775807 := by
    have : P.length ≤ 9223372036854775807 := hmax
    omega
  go_enter Tryd.func10, Tryd.ntmps10
  go_wp2_with fail
  go_loopw [5] (fun s5 wr => ∃ k : Nat, k ≤ P.length ∧ s5 = .int .i64 k ∧ Below w.heap.size w wr) (fun s5 _ => P.length - (intOf s5).toNat)
  case atStart => exact ⟨0, Nat.zero_le _, rfl, Below.refl _ _⟩
  case round =>
    obtain ⟨k, hk, rfl, hB⟩ := hrel
    by_cases hlt : k < P.length
    · obtain ⟨q, hq⟩ : ∃ q, P[k]? = some q := ⟨_, List.getElem?_eq_getElem hlt⟩
      obtain ⟨g, o, hga, hgl, c0, c1⟩ : ∃ g o, a = some ⟨g, o, none⟩ ∧ g < wr.heap.size ∧ wr.cell? ⟨g, o + k * 2, none⟩ = some (.int .i64 q.1) ∧ wr.cell? ⟨g, o + k * 2 + 1, none⟩ = some (.int .i64 q.2) := by
        obtain ⟨a', cap', he', _, _, _, hform⟩ := ha.kept hB
        obtain ⟨g', o', hgg, h0, e1, e2⟩ := hform k q hq
        injection he' with h1 h2 h3
        exact ⟨g', o', h1.trans hgg, h0, e1, e2⟩
      obtain ⟨g2, o2, hgb, hgl2, d0, d1⟩ : ∃ g o, b = some ⟨g, o, none⟩ ∧ g < wr.heap.size ∧ wr.cell? ⟨g, o + k * 2, none⟩ = some (.int .i64 q.1) ∧ wr.cell? ⟨g, o + k * 2 + 1, none⟩ = some (.int .i64 q.2) := by
        obtain ⟨a', cap', he', _, _, _, hform⟩ := hb.kept hB
        obtain ⟨g', o', hgg, h0, e1, e2⟩ := hform k q hq
        injection he' with h1 h2 h3
        exact ⟨g', o', h1.trans hgg, h0, e1, e2⟩
      subst hga
      subst hgb
      have hki : (k : Int) < (P.length : Nat) := by omega
      have l0 : ∀ n : Lat wr, n.w.cell? ⟨g, o + k * 2, none⟩ = some (.int .i64 q.1) := fun n => (n.h.cell (p := ⟨g, _, none⟩) hgl).trans c0
      have l1 : ∀ n : Lat wr, n.w.cell? ⟨g, o + k * 2 + 1, none⟩ = some (.int .i64 q.2) := fun n => (n.h.cell (p := ⟨g, _, none⟩) hgl).trans c1
      have l2 : ∀ n : Lat wr, n.w.cell? ⟨g2, o2 + k * 2, none⟩ = some (.int .i64 q.1) := fun n => (n.h.cell (p := ⟨g2, _, none⟩) hgl2).trans d0
      have l3 : ∀ n : Lat wr, n.w.cell? ⟨g2, o2 + k * 2 + 1, none⟩ = some (.int .i64 q.2) := fun n => (n.h.cell (p := ⟨g2, _, none⟩) hgl2).trans d1
      have hne := lat_some wr
      clear c0 c1 d0 d1
      go_wp2_with fail
      refine wp_region_lat (by kernel_rfl) (by kernel_rfl) ?_
      repeat (go_big_quiet_step (fail))
      refine wpQuiet_nil ?_
      rintro _ ⟨m, rfl⟩
      have HB2 := hide (bt hB m.h)
      clear l0 l1 l2 l3 hB
      go_wp2_with fail
      go_roundw
      case rel => exact ⟨k + 1, by omega, by go_num, HB2.out⟩
      case measure => simp [intOf]; omega
    · obtain rfl : k = P.length := by omega
      have hki : ¬ ((P.length : Nat) : Int) < (P.length : Nat) := by omega
      go_wp2_with fail
      go_ret
      exact ⟨rfl, hB⟩
end Go.Proofs.YtekpamilcpeanaaDoor
namespace Go.Proofs.YtekpamilcpeanaaDoor
open Go.RowKit Go.Shelf
set_option linter.unusedVariables false
set_option linter.unusedSimpArgs false
theorem readyZ.callG {P : Program} {md : Region.Mode} {ops : Array Oper} {Q : Exit → Act → World → Prop} {S : World → Prop} {zs : List Nat} {n : Nat} {L : Array Bool} {a : Act} {w : World} {i : Nat} {rs : List Nat} {o : Oper} (ho : ops[i]? = some o) (hg : Region.wanted o (yielded ops a.tmps) = true) {f : FuncId}
    {vs : Array Value} (hrun : (execOp a.eval o).run P w = .ok (.enter f vs) w) {R : Ending → World → Prop} (hc : Calls P f vs w R) (hR : ∀ e w', R e w' → ∃ v, e = .returned v ∧ (i ∉ zs → S w') ∧ anyZ P md ops Q S zs n (L.setIfInBounds i true) (a.put o.dst v) w')
    (hrest : readyZ P md ops Q S zs n L a w rs) : readyZ P md ops Q S zs n L a w (i :: rs) := fun j hj => by
  rcases List.mem_cons.1 hj with rfl | hj
  · refine wpOp_step ho (fun K hK => ?_)
    rw [if_pos hg]
    unfold Oper.wp
    rw [hrun]
    refine Calls.mono hc (fun e w' h => ?_)
    obtain ⟨v, rfl, h1, h2⟩ := hR e w' h
    exact hK _ _ ⟨h1, h2⟩
  · exact hrest j hj
theorem legal_any (p : Nat) (W H : Int) (tl : List Nat) (f : Int → Int → Option Int) (c s x y : Int) (v : Value) (P : List (Int × Int)) (w : World) (hv : CeR w v P) (hw : Wl w p W H tl f) (hg : Grnd w) (ho : Offs w) :
    Calls Tryd.prog 32 #[ptr p, shv c s, cel x y, v] w fun e w' => e = .returned (.bool (legV (stB W H tl f c s) x y P)) ∧ Below w.heap.size w w' :=
  legal_of p _ c s x y v P w hv (fun wx hb x y => stands_any p W H tl f c s x y wx (hw.kept hb) (hg.kept hb)) (fun wx hb x y d => csteps_is c s x y d (hw.kept hb) (hg.kept hb) (ho.kept hb)) (fun wx hb => ho.kept hb)
theorem smooth_any (p : Nat) (W H : Int) (tl : List Nat) (f : Int → Int → Option Int) (c s x y : Int) (v : Value) (P : List (Int × Int)) (w : World) (hv : CeR w v P) (hw : Wl w p W H tl f) (hg : Grnd w) (ho : Offs w) :
    Calls Tryd.prog 16 #[ptr p, shv c s, cel x y, v] w (SmE w (smO (stB W H tl f c s) x y P)) := by
  have hL : ∀ wx, Below w.heap.size w wx → ∀ x y v P, CeR wx v P → Calls Tryd.prog 32 #[ptr p, shv c s, cel x y, v] wx fun e w' => e = .returned (.bool (legV (stB W H tl f c s) x y P)) ∧ Below wx.heap.size wx w' :=
    fun wx hb x y v P hc => legal_any p W H tl f c s x y v P wx hc (hw.kept hb) (hg.kept hb) (ho.kept hb)
  by_cases h : P.length ≤ 16384 ∧ legV (stB W H tl f c s) x y P = true
  · rw [smO, if_pos h]
    exact smooth_yes p c s x y v P _ w hv h.1 h.2 hL
  · rw [smO, if_neg h]
    exact smooth_no p c s x y v P _ w hv (if_neg h) hL
theorem dsmooth_any (wd ht : Nat) (iv : Value) (x y : Int) (v : Value) (P : List (Int × Int)) (S : Int → Int → Bool) (w : World) (hv : CeR w v P) (hd : DS w wd ht iv S) :
    Calls Tryd.prog 17 #[gdv wd ht iv, cel x y, v] w (SmE w (smO S x y P)) := by
  by_cases h : P.length ≤ 16384 ∧ legV S x y P = true
  · rw [smO, if_pos h]
    exact dsmooth_yes wd ht iv x y v P S w hv hd h.1 h.2
  · rw [smO, if_neg h]
    exact dsmooth_no wd ht iv x y v P S w hv hd (if_neg h)
/-- The ground that the document's Of gives. -/
theorem ds_of {w : World} {wd ht N : Nat} {tl : List Nat} {f : Int → Int → Option Int} {c s : Int} {iv : Value} (hd : (1 ≤ wd ∧ wd ≤ 128) ∧ 1 ≤ ht ∧ ht ≤ 128) (hN : N = wd * ht)
    (h : Rw 4 1 cB w iv ((List.range N).map (fun k => stB wd ht tl f c s ((k % wd : Nat) : Int) ((k / wd : Nat) : Int)))) : DS w wd ht iv (stB wd ht tl f c s) := by
  obtain ⟨a, cap, rfl, -⟩ := Rw.form cB_len h
  refine ⟨⟨_, _, _, rfl⟩, fun wx q x y => ?_, fun wx q x y d => ?_⟩
  · have h1 := gstands_any (w := wx) (St := fun k => stB wd ht tl f c s ((k % wd : Nat) : Int) ((k / wd : Nat) : Int)) x y (show Gd wx wd ht N _ _ from h.upto q) ⟨hd.1.2, hd.2.2⟩ hN
    rwa [gS_st hd] at h1
  · refine (dst_is hd hN h d wx q x y).mono ?_
    rintro e w' ⟨rfl, hb⟩
    exact ⟨_, _, rfl, hb⟩
theorem Rawk : Rcl 8 := zl fun _ _ => by go_simp
theorem sm9 : smO (stB 3 3 tl9 (whoL []) 0 1) 0 0 [(1, 0), (1, 1)] = some [(1, 1)] := by kernel_rfl
theorem ln9 : lineL 0 0 2 0 = [(1, 0), (2, 0)] := by kernel_rfl
theorem awake_is (w : World) (hg : Grnd w) (ho : Offs w) : Calls Tryd.prog 8 #[] w fun e w' => e = .returned (.bool true) ∧ Below w.heap.size w w' := by
  have hmk := make9 w
  have HN := hide (new9 w)
  have HG := hide hg
  have HO := hide ho
  clear hg ho
  go_enter Tryd.func8, Tryd.ntmps8
  go_wp2_with fail
  refine HN.out.mono ?_
  rintro e w1 ⟨p, rfl, hw1, hb1⟩
  obtain ⟨w2, hw2⟩ : ∃ w2, w1.alloc (.cells #[.int .i64 1, .int .i64 0, .int .i64 1, .int .i64 1] 23) = w2 := ⟨_, rfl⟩
  have hb2 : Below w1.heap.size w1 w2 := by rw [← hw2]; exact box1 _ _
  have hc2 : CeR w2 (.slice (some ⟨w1.heap.size, 0, none⟩) 2 2) [(1, 0), (1, 1)] := by
    have hh : w2.heap[w1.heap.size]? = some (.cells #[.int .i64 1, .int .i64 0, .int .i64 1, .int .i64 1] 23 (0, 0)) := by rw [← hw2]; exact heap_alloc_new _ _
    exact ceR_own ⟨rfl, .inr ⟨w1.heap.size, 2, _, rfl, Nat.zero_le _, hh, Nat.le_refl _, by decide, rfl, rfl⟩⟩
  have HA := hide (smooth_any p 3 3 tl9 (whoL []) 0 1 0 0 _ _ w2 hc2 (hw1.kept hb2) (HG.out.kept (bt hb1 hb2)) (HO.out.kept (bt hb1 hb2)))
  rw [sm9] at HA
  have HW2 := hide hw2
  have Hb2 := hide (bt hb1 hb2)
  clear hmk HN hw1 hb1 HG HO hw2 hb2 hc2
  go_wp2_with (rw [HW2.out])
  refine HA.out.mono ?_
  rintro e w3 ⟨v, rfl, hv, -, hb3⟩
  obtain ⟨va, vc, rfl⟩ := hv.slice
  have HLn := hide (fun wx => line_any 0 0 2 0 wx)
  rw [ln9] at HLn
  have Hb3 := hide (bt Hb2.out hb3)
  clear hv hb3 HA Hb2 HW2
  go_wp2_with fail
  refine (HLn.out _).mono ?_
  rintro e w4 ⟨u, rfl, hu, -, hb4⟩
  obtain ⟨ua, uc, rfl⟩ := hu.slice
  have Hb4 := hide (bt Hb3.out hb4)
  clear hu hb4 Hb3 HLn
  go_wp2_with fail
  go_ret
  exact ⟨rfl, Hb4.out⟩
end Go.Proofs.YtekpamilcpeanaaDoor
