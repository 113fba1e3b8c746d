/-
  reckon: a cluster's nodes and edges, by the world as it is. Which clusters of a graph are right, and what reckoning one more makes of it. New: a world's graph. New: a world's graph.
-/
import Derived.Test.YthiafmlgialbnaaGreatDoorRck1
set_option linter.unusedSimpArgs false
namespace Go.Proofs.YthiafmlgialbnaaGreatDoor
open Go.RowKit Go.Shelf
set_option linter.unusedVariables false
/-- What reckon leaves. -/
def RckEnd (w w' : World) (gp p : Nat) (c s ep : Int) (wb eb : Nat) (KW : List (Int × Int)) (LW : Int × Int → List (Int × Int)) (KE : List (Int × Int)) (LE : Int × Int → List E3) (W H : Int) (tl : List Nat) (f : Int → Int → Option Int) (kx ky : Int) : Prop :=
  ∃ (NL KW' KE' : List (Int × Int)) (LE' : Int × Int → List E3), IsN (stB W H tl f c s) W H kx ky NL ∧ NL.length ≤ 32 ∧ GS w' gp p c s ep wb eb KW' (updL LW (kx, ky) NL) KE' LE' ∧ (∀ q ∈ NL, IsE W H tl f c s kx ky q (LE' q)) ∧ (∀ q, q ∉ NL → q ∈ LW (kx, ky) → LE' q = []) ∧ (∀ q, q ∉ NL → q ∉ LW (kx, ky) → LE' q = LE q) ∧
    (∀ q, q ∈ KE' ↔ (q ∈ KE ∧ q ∉ LW (kx, ky)) ∨ q ∈ NL) ∧ (KW'.length ≤ KW.length + 1 ∧ ∀ k ∈ KW', k ∈ KW ∨ k = (kx, ky)) ∧ KE'.length ≤ KE.length + 32 ∧ Turns (fun k => k = wb ∨ k = eb) w w'
theorem acL_len {S : Int → Int → Bool} {W H kx ky : Int} : (acL S W H kx ky).length ≤ 32 := by
  have h : ∀ d, (prtL S W H kx ky d).length ≤ 8 := fun d => prtL_len d
  unfold acL
  simp only [List.flatMap_cons, List.flatMap_nil, List.length_append, List.length_nil]
  have := h 0; have := h 1; have := h 2; have := h 3
  omega
set_option maxRecDepth 100000 in
set_option maxHeartbeats 8000000 in
theorem reckon_is {w : World} {gp p : Nat} {c s ep : Int} {wb eb : Nat} {KW : List (Int × Int)} {LW : Int × Int → List (Int × Int)} {KE : List (Int × Int)} {LE : Int × Int → List E3} {W H : Int} {tl : List Nat} {f : Int → Int → Option Int} (hGS : GS w gp p c s ep wb eb KW LW KE LE) (hE : En w p W H tl f) (hS : ∀ u v, stB W H tl f c s u v = true → (0 ≤ u ∧ u < W) ∧ 0 ≤ v ∧ v < H)
    (kx ky : Int) (hkx : W64 kx) (hky : W64 ky) (hL64 : ∀ q ∈ LW (kx, ky), W64 q.1 ∧ W64 q.2) (hLl : (LW (kx, ky)).length ≤ 1000) (hKW : KW.length ≤ 1000000) (hKE : KE.length ≤ 1000000) :
    Calls Tryz.prog 29 #[ptr gp, cel kx ky] w fun e w' => e = .returned (.tuple #[]) ∧ RckEnd w w' gp p c s ep wb eb KW LW KE LE W H tl f kx ky := by
  obtain ⟨hW, hH⟩ := hE.1.sides
  obtain ⟨bm, -, -, hpl⟩ := hE.six
  obtain ⟨FW, mW, rW⟩ := hGS.wm
  obtain ⟨FE, mE, rE⟩ := hGS.em
  obtain ⟨X, hX⟩ : ∃ X, w.alloc (.cells #[.int .i64 kx, .int .i64 ky] 47) = X := ⟨_, rfl⟩
  have B0 : Below w.heap.size w X := hX ▸ box1 _ _
  have oX : X.heap[w.heap.size]? = some (.cells #[.int .i64 kx, .int .i64 ky] 47 (0, 0)) := hX ▸ heap_alloc_new w _
  have zX : X.heap.size = w.heap.size + 1 := by rw [← hX]; simp
  obtain ⟨wa, wc, hFW⟩ := slice_C (rW kx ky)
  obtain ⟨OL, hOL⟩ : ∃ OL, LW (kx, ky) = OL := ⟨_, rfl⟩
  rw [hOL] at hFW hL64 hLl
  have rOL : RC X (.slice wa OL.length wc) OL := by
    have := (rW kx ky).upto B0
    rw [hFW, hOL] at this
    exact this
  have hd : Below X.heap.size X X.drew := ⟨rfl, rfl, rfl, Nat.le_refl _, fun _ _ => rfl⟩
  have gX := hGS.g.upto B0
  have c4 := (gX.upto hd).c4
  have e0 : X.drew.cell? ⟨w.heap.size, 0, none⟩ = some (.int .i64 kx) := by rw [cell_of_row X.drew _ 0 _ _ _ oX]; rfl
  have e1 : X.drew.cell? ⟨w.heap.size, 1, none⟩ = some (.int .i64 ky) := by rw [cell_of_row X.drew _ 1 _ _ _ oX]; rfl
  have HS : (X.drew.cell? ⟨gp, 4, none⟩ = some (.map (some wb)) ∧ X.drew.cell? ⟨w.heap.size, 0, none⟩ = some (.int .i64 kx) ∧ X.drew.cell? ⟨w.heap.size, 1, none⟩ = some (.int .i64 ky)) ∧ MapS nilS X.drew wb KW FW := ⟨⟨c4, e0, e1⟩, (mW.upto B0).upto hd⟩
  have mEX := mE.upto B0
  have hel := mE.lt
  have hwl := mW.lt
  have hgl := hGS.g.lt
  have Hst := hide (And.intro hGS (And.intro hE (And.intro mW (And.intro rW (And.intro mEX rE)))))
  have HX := hide hX
  have HB := hide (And.intro B0 (And.intro oX gX))
  have HR := hide rOL
  have Hnum := hide (And.intro hW (And.intro hH (And.intro trivial (And.intro hS (And.intro hKW hKE)))))
  have HL := hide hL64
  have Hsz := hide (And.intro zX (And.intro hel (And.intro hwl (And.intro hgl hpl))))
  have HW64 := hide (And.intro hkx hky)
  have HO := hide (And.intro hOL hFW)
  clear B0 oX hd gX c4 e0 e1 mEX hX hGS hE mW rW mE rE rOL hW hH hS hKW hKE hL64 zX hel hwl hgl hpl hFW hOL hkx hky
  go_enter Tryz.func29, Tryz.ntmps29
  go_wp2_with (rw [HX.out])
  refine wp_only ?_
  refine wp_region_z (fun wx : World => (wx.cell? ⟨gp, 4, none⟩ = some (.map (some wb)) ∧ wx.cell? ⟨w.heap.size, 0, none⟩ = some (.int .i64 kx) ∧ wx.cell? ⟨w.heap.size, 1, none⟩ = some (.int .i64 ky)) ∧ MapS nilS wx wb KW FW) [] (by kernel_rfl) ?_
  refine anyZ_take 0 8 (v := ptr gp) rfl (by kernel_rfl) (fun _ _ _ h => h.elim) (Or.inl ⟨by rfl, fun wx hx => by obtain ⟨⟨x0, x1, x2⟩, -⟩ := hx; clear HS; go_simp⟩) HS ?_
  try simp only [Act.put, List.getElem_toArray, List.getElem_cons_zero, List.getElem_cons_succ, List.setIfInBounds_toArray, List.set_cons_zero, List.set_cons_succ]
  refine anyZ_take 1 8 (v := ptr gp) rfl (by kernel_rfl) (fun _ _ _ h => h.elim) (Or.inl ⟨by rfl, fun wx hx => by obtain ⟨⟨x0, x1, x2⟩, -⟩ := hx; clear HS; go_simp⟩) HS ?_
  try simp only [Act.put, List.getElem_toArray, List.getElem_cons_zero, List.getElem_cons_succ, List.setIfInBounds_toArray, List.set_cons_zero, List.set_cons_succ]
  refine anyZ_take 2 8 (v := .pointer (some ⟨gp, 4, none⟩)) rfl (by kernel_rfl) (fun _ _ _ h => h.elim) (Or.inl ⟨by rfl, fun wx hx => by obtain ⟨⟨x0, x1, x2⟩, -⟩ := hx; clear HS; go_simp⟩) HS ?_
  try simp only [Act.put, List.getElem_toArray, List.getElem_cons_zero, List.getElem_cons_succ, List.setIfInBounds_toArray, List.set_cons_zero, List.set_cons_succ]
  refine anyZ_take 3 8 (v := .map (some wb)) rfl (by kernel_rfl) (fun _ _ _ h => h.elim) (Or.inl ⟨by rfl, fun wx hx => by obtain ⟨⟨x0, x1, x2⟩, -⟩ := hx; clear HS; go_simp⟩) HS ?_
  try simp only [Act.put, List.getElem_toArray, List.getElem_cons_zero, List.getElem_cons_succ, List.setIfInBounds_toArray, List.set_cons_zero, List.set_cons_succ]
  refine anyZ_take 4 8 (v := cel kx ky) rfl (by kernel_rfl) (fun _ _ _ h => h.elim) (Or.inl ⟨by rfl, fun wx hx => by obtain ⟨⟨x0, x1, x2⟩, -⟩ := hx; clear HS; go_simp⟩) HS ?_
  try simp only [Act.put, List.getElem_toArray, List.getElem_cons_zero, List.getElem_cons_succ, List.setIfInBounds_toArray, List.set_cons_zero, List.set_cons_succ]
  refine anyZ_take 5 8 (v := .slice wa OL.length wc) rfl (by kernel_rfl) (fun _ _ _ h => h.elim) (Or.inl ⟨by rfl, fun wx hx => by rw [← HO.out.2]; exact run_look Tryz.underlying64 (by kernel_rfl) HW64.out.1 HW64.out.2 (by rfl) (by rfl) (by rfl) hx.2⟩) HS ?_
  try simp only [Act.put, List.getElem_toArray, List.getElem_cons_zero, List.getElem_cons_succ, List.setIfInBounds_toArray, List.set_cons_zero, List.set_cons_succ]
  refine anyZ_take 6 8 (v := .int .i64 (OL.length : Nat)) rfl (by kernel_rfl) (fun _ _ _ h => h.elim) (Or.inl ⟨by rfl, fun wx hx => run_slen (by rfl) (by rfl)⟩) HS ?_
  try simp only [Act.put, List.getElem_toArray, List.getElem_cons_zero, List.getElem_cons_succ, List.setIfInBounds_toArray, List.set_cons_zero, List.set_cons_succ]
  refine anyZ_take 7 8 (v := .int .i64 0) rfl (by kernel_rfl) (fun _ _ _ h => h.elim) (Or.inl ⟨by rfl, fun wx hx => run_moveO (by rfl) (by rfl)⟩) HS ?_
  try simp only [Act.put, List.getElem_toArray, List.getElem_cons_zero, List.getElem_cons_succ, List.setIfInBounds_toArray, List.set_cons_zero, List.set_cons_succ]
  refine anyZ_done (by kernel_rfl) ?_ _
  dsimp only [Only, Exit.then]
  have hd : Below X.heap.size X X.drew := ⟨rfl, rfl, rfl, Nat.le_refl _, fun _ _ => rfl⟩
  have D0 : Hid (Del X X.drew eb KE FE OL 0) := hide ⟨Turns.of_below hd, KE, FE, Hst.out.2.2.2.2.1.upto hd, fun q => by simp, fun x y => by simp, Nat.le_refl _⟩
  clear HS hd
  go_wp2_with fail
  go_loopw [18] (fun v wr => ∃ i : Nat, v = .int .i64 (i : Nat) ∧ i ≤ OL.length ∧ Del X wr eb KE FE OL i) (fun v _ => OL.length - (intOf v).toNat)
  case atStart => exact ⟨0, rfl, Nat.zero_le _, D0.out⟩
  case round =>
    obtain ⟨i, rfl, hi, hD⟩ := hrel
    have hTs := hD.T.size
    have hneb : ∀ {g : Nat} {cur : Array Value} {t : Nat}, X.heap[g]? = some (.cells cur t (0, 0)) → g ≠ eb := fun hg => not_map Hst.out.2.2.2.2.1.blk hg
    by_cases hlt : i < OL.length
    · obtain ⟨q, hq⟩ : ∃ q, OL[i]? = some q := ⟨_, List.getElem?_eq_getElem hlt⟩
      have hq64 := HL.out q (List.mem_of_getElem? hq)
      have rr := HR.out.kept hD.T (fun g e => by obtain ⟨cur, hc⟩ := HR.out.blk e; exact hneb hc)
      obtain ⟨gn, rfl, hgn, n0, n1⟩ := RC_at rr hq
      obtain ⟨qx, qy⟩ := q
      obtain ⟨Y, hY⟩ : ∃ Y, wr.alloc (.cells #[.int .i64 qx, .int .i64 qy] 47) = Y := ⟨_, rfl⟩
      have bY : Below wr.heap.size wr Y := hY ▸ box1 _ _
      have TY : Two Y wr.heap.size qx qy := by rw [← hY]; exact Two.newAt rfl
      have hdY : Below Y.heap.size Y Y.drew := ⟨rfl, rfl, rfl, Nat.le_refl _, fun _ _ => rfl⟩
      obtain ⟨Z, rZ, DZ⟩ := hD.step (bt bY hdY) hq hq64.1 hq64.2 0
      have g5 := ((HB.out.2.2.kept hD.T (hneb HB.out.2.2)).upto (bt bY hdY)).c5
      obtain ⟨⟨t0, t1⟩, -, -⟩ := id TY
      have HS : Y.drew.cell? ⟨gp, 5, none⟩ = some (.map (some eb)) ∧ Y.drew.cell? ⟨wr.heap.size, 0, none⟩ = some (.int .i64 qx) ∧ Y.drew.cell? ⟨wr.heap.size, 1, none⟩ = some (.int .i64 qy) := ⟨g5, t0, t1⟩
      have HY := hide hY
      have HZ := hide (And.intro rZ DZ)
      have hki : (i : Int) < (OL.length : Nat) := by omega
      simp only at n0 n1
      have hll := hLl
      clear hD rr bY TY hdY rZ DZ g5 t0 t1 hY hq hq64 hgn hneb hTs hlt
      go_wp2_with (rw [HY.out])
      refine wp_only ?_
      refine wp_region_z (fun wx : World => wx.cell? ⟨gp, 5, none⟩ = some (.map (some eb)) ∧ wx.cell? ⟨wr.heap.size, 0, none⟩ = some (.int .i64 qx) ∧ wx.cell? ⟨wr.heap.size, 1, none⟩ = some (.int .i64 qy)) [5] (by kernel_rfl) ?_
      refine anyZ_take 0 8 (v := ptr gp) rfl (by kernel_rfl) (fun _ _ _ h => h.elim) (Or.inl ⟨by rfl, fun wx hx => by obtain ⟨x0, x1, x2⟩ := hx; clear HS; go_simp⟩) HS ?_
      try simp only [Act.put, List.getElem_toArray, List.getElem_cons_zero, List.getElem_cons_succ, List.setIfInBounds_toArray, List.set_cons_zero, List.set_cons_succ]
      refine anyZ_take 1 8 (v := ptr gp) rfl (by kernel_rfl) (fun _ _ _ h => h.elim) (Or.inl ⟨by rfl, fun wx hx => by obtain ⟨x0, x1, x2⟩ := hx; clear HS; go_simp⟩) HS ?_
      try simp only [Act.put, List.getElem_toArray, List.getElem_cons_zero, List.getElem_cons_succ, List.setIfInBounds_toArray, List.set_cons_zero, List.set_cons_succ]
      refine anyZ_take 2 8 (v := .pointer (some ⟨gp, 5, none⟩)) rfl (by kernel_rfl) (fun _ _ _ h => h.elim) (Or.inl ⟨by rfl, fun wx hx => by obtain ⟨x0, x1, x2⟩ := hx; clear HS; go_simp⟩) HS ?_
      try simp only [Act.put, List.getElem_toArray, List.getElem_cons_zero, List.getElem_cons_succ, List.setIfInBounds_toArray, List.set_cons_zero, List.set_cons_succ]
      refine anyZ_take 3 8 (v := .map (some eb)) rfl (by kernel_rfl) (fun _ _ _ h => h.elim) (Or.inl ⟨by rfl, fun wx hx => by obtain ⟨x0, x1, x2⟩ := hx; clear HS; go_simp⟩) HS ?_
      try simp only [Act.put, List.getElem_toArray, List.getElem_cons_zero, List.getElem_cons_succ, List.setIfInBounds_toArray, List.set_cons_zero, List.set_cons_succ]
      refine anyZ_take 4 8 (v := cel qx qy) rfl (by kernel_rfl) (fun _ _ _ h => h.elim) (Or.inl ⟨by rfl, fun wx hx => by obtain ⟨x0, x1, x2⟩ := hx; clear HS; go_simp⟩) HS ?_
      try simp only [Act.put, List.getElem_toArray, List.getElem_cons_zero, List.getElem_cons_succ, List.setIfInBounds_toArray, List.set_cons_zero, List.set_cons_succ]
      refine anyZ_ready (rs := [5]) (by kernel_rfl) (by simp) ?_
      refine readyZ.cons rfl rfl (run_del (by rfl) (by rfl) (by rfl) HZ.out.1) (fun h => absurd (by decide) h) ?_ readyZ.nil
      try simp only [Act.put, List.getElem_toArray, List.getElem_cons_zero, List.getElem_cons_succ, List.setIfInBounds_toArray, List.set_cons_zero, List.set_cons_succ]
      refine anyZ_done (by kernel_rfl) ?_ _
      dsimp only [Only, Exit.then]
      clear HS
      go_wp2_with fail
      go_roundw
      case rel => exact ⟨i + 1, by go_num, by omega, HZ.out.2⟩
      case measure => simp only [intOf]; omega
    · have hi' : i = OL.length := by omega
      subst hi'
      obtain ⟨KE1, FE1, m1, m2, m3, m4⟩ := hD.m
      rw [List.take_length] at m2 m3
      have hTw : Turns (fun k => k = eb) w wr := (Turns.of_below HB.out.1).trans (hD.T.mono (fun k _ e => .inl e))
      have gr := Hst.out.1.g.kept hTw (not_map Hst.out.1.eblk Hst.out.1.g)
      have hmo : MO (fun k => k = eb) w p := fun k hk e => Hst.out.1.mo k hk (.inr e)
      have Er := Hst.out.2.1.turned hTw hmo
      have HA := hide (across_is gr Er.1 Er.2.1 Er.2.2 Hnum.out.2.2.2.1 kx ky)
      have or := hD.T.same (not_map Hst.out.2.2.2.2.1.blk HB.out.2.1) HB.out.2.1
      have e0 : wr.cell? ⟨w.heap.size, 0, none⟩ = some (.int .i64 kx) := by rw [cell_of_row wr _ 0 _ _ _ or]; rfl
      have e1 : wr.cell? ⟨w.heap.size, 1, none⟩ = some (.int .i64 ky) := by rw [cell_of_row wr _ 1 _ _ _ or]; rfl
      have Hr := hide (And.intro m1 (And.intro m2 (And.intro m3 (And.intro m4 (And.intro hTw (And.intro gr (And.intro Er or)))))))
      have hws := hTw.size
      clear hD m1 m2 m3 m4 hTw gr hmo Er or hneb hTs D0 HR
      go_wp2_with fail
      refine HA.out.mono ?_
      rintro e w2 ⟨mb, rfl, ⟨KA, FA, hA, hKA, hKl⟩, hmb, hb2⟩
      have hKl2 : KA.length ≤ 32 := Nat.le_trans hKl acL_len
      have HIo := hide (inord43 hA.mp (by omega))
      have HA2 := hide (And.intro hA (And.intro hKA (And.intro hmb hb2)))
      clear hA hKA hKl hmb hb2 e0 e1 HA
      go_wp2_with fail
      refine HIo.out.mono ?_
      rintro e w3 ⟨nv, NL, rfl, hpm, hst, hRN, hno, hb3⟩
      obtain ⟨na, nc, hnv⟩ := slice_C hRN
      subst hnv
      have hNl : NL.length ≤ 32 := by rw [hpm.length_eq]; exact hKl2
      have hIN : IsN (stB W H tl f c s) W H kx ky NL := ⟨upC_of hst (hpm.nodup_iff.2 HA2.out.1.mp.nodup), fun q => by rw [hpm.mem_iff, HA2.out.2.1]; rfl⟩
      have hb23 := bt HA2.out.2.2.2 hb3
      have A3 := HA2.out.1.upto hb3
      have m13 := Hr.out.1.upto hb23
      have R0 : Rk w w3 w3 eb FA (acE (acL (stB W H tl f c s) W H kx ky)) NL KE1 (fun q => if q ∈ OL then [] else LE q) (IsE W H tl f c s kx ky) 0 := by
        refine ⟨Turns.refl _ _, ⟨KE1, FE1, _, m13, fun q => by simp, Nat.le_refl _, fun x y => ?_, fun x y g e => ?_, fun q hq => by simp at hq, fun q _ => rfl⟩, fun j q _ _ => A3.rows _ _⟩
        · rw [Hr.out.2.2.1]
          by_cases e : (x, y) ∈ OL
          · rw [if_pos e]
            show RE w3 nilS (if (x, y) ∈ OL then [] else LE (x, y))
            rw [if_pos e]
            exact Rw.nil _ _ _ _
          · rw [if_neg e]
            show RE w3 (FE x y) (if (x, y) ∈ OL then [] else LE (x, y))
            rw [if_neg e]
            refine ((Hst.out.2.2.2.2.2 x y).kept Hr.out.2.2.2.2.1 (fun g e => ?_)).upto hb23
            obtain ⟨cur, hc⟩ := (Hst.out.2.2.2.2.2 x y).blk e
            exact not_map Hst.out.1.eblk hc
        · rw [Hr.out.2.2.1] at e
          by_cases e1 : (x, y) ∈ OL
          · rw [if_pos e1] at e; cases e
          · rw [if_neg e1] at e
            obtain ⟨cur, hc⟩ := (Hst.out.2.2.2.2.2 x y).blk e
            exact .inl (Array.getElem?_eq_some_iff.1 hc).1
      have hao : ∀ x y g, (FA x y).ownBlock = some g → wr.heap.size ≤ g ∧ g < w3.heap.size := fun x y g e => ⟨HA2.out.1.own x y g e, A3.lt e⟩
      have hne3 : ∀ x y, (FA x y).ownBlock ≠ some eb := fun x y e => by
        obtain ⟨cur, hc⟩ := (A3.rows x y).blk e
        exact not_map m13.blk hc rfl
      have HR0 := hide R0
      have H3 := hide (And.intro A3 (And.intro hao (And.intro hne3 (And.intro hRN (And.intro hb23 (And.intro hIN m13.lt))))))
      have HN := hide hno
      have hNl2 := hNl
      have Hpm := hide hpm
      clear hpm hst hRN hno hb3 hb23 A3 m13 R0 hao hne3 hIN HIo hKl2
      go_wp2_with fail
      go_loopw [35] (fun v wx => ∃ j : Nat, v = .int .i64 (j : Nat) ∧ j ≤ NL.length ∧ Rk w w3 wx eb FA (acE (acL (stB W H tl f c s) W H kx ky)) NL KE1 (fun q => if q ∈ OL then [] else LE q) (IsE W H tl f c s kx ky) j) (fun v _ => NL.length - (intOf v).toNat)
      case atStart => exact ⟨0, rfl, Nat.zero_le _, HR0.out⟩
      case round =>
        obtain ⟨j, rfl, hj, hK⟩ := hrel
        obtain ⟨A3, hao, hne3, hRN, hb23, hIN, hebl⟩ := H3.out
        obtain ⟨m1, m2, m3, m4, hTw, gr, Er, or⟩ := Hr.out
        have hn : ∀ {g : Nat} {cur : Array Value} {t : Nat}, w3.heap[g]? = some (.cells cur t (0, 0)) → t ≠ 63 → ¬ (g = eb ∨ ∃ x y, (FA x y).ownBlock = some g) := fun hg ht e => by
          rcases e with e | ⟨x, y, e⟩
          · exact not_map (m1.upto hb23).blk hg e
          · obtain ⟨cur, hc⟩ := (A3.rows x y).blk e
            rw [hg] at hc; cases hc; exact ht rfl
        have rN := hRN.kept hK.T (fun g e => by obtain ⟨cur, hc⟩ := hRN.blk e; exact hn hc (by decide))
        have g3 := gr.upto hb23
        have gx := g3.kept hK.T (hn g3 (by decide))
        have o3 := (hb23.block _ (Array.getElem?_eq_some_iff.1 or).1).trans or
        have ox := hK.T.same (hn o3 (by decide)) o3
        by_cases hlt : j < NL.length
        · obtain ⟨q, hq⟩ : ∃ q, NL[j]? = some q := ⟨_, List.getElem?_eq_getElem hlt⟩
          have hqN := (hIN.2 q).1 (List.mem_of_getElem? hq)
          obtain ⟨hW, hH, -, hS, hKW, hKE⟩ := Hnum.out
          have hr : rB W H kx ky = true := by
            have h1 := hqN.in hW hH hS
            have h2 := in_rB hW hH (hS _ _ h1.2)
            rwa [h1.1.1, h1.1.2] at h2
          have hqi := hqN.inB' hW hH hS hr
          have hcl := cl_rect hW hH hr
          have hqs := hS _ _ (hqN.in hW hH hS).2
          have hqh : has (kx * 8) (ky * 8) (rS W kx) (rS H ky) q.1 q.2 = true := (has_iff _ _ _ _ _ _).2 ⟨(may_iff _ _ _ _).2 (by omega), by obtain ⟨⟨i1, i2⟩, i3, i4⟩ := hqi; omega⟩
          have h641 : W64 q.1 := w64_of (by omega)
          have h642 : W64 q.2 := w64_of (by omega)
          have hmbe : mb ≠ eb := by have := HA2.out.2.2.1; have := Hsz.out.2.1; have := hTw.size; omega
          have mA := A3.mp.kept hK.T (fun e => e.elim hmbe (fun ⟨x, y, e⟩ => A3.ne e rfl))
          have T0 := (Turns.of_below (S := fun k => k = eb) hb23).trans (hK.T.mono (fun k _ e => e.imp id (fun ⟨x, y, e⟩ => (hao x y k e).1)))
          have hmo0 := Hst.out.1.mo
          obtain ⟨pcs, hpb⟩ := Hst.out.2.1.pblk
          have hmo : MO (fun k => k = eb) _ p := fun k hk e => by
            subst e
            refine ⟨m1.blk, ?_⟩
            rw [World.cell?_of_block (a := ⟨p, 6, none⟩) (hTw.block p Hsz.out.2.2.2.2 (not_map Hst.out.1.eblk hpb))]
            exact Hst.out.1.nw.2
          have Ex := Er.turned T0 hmo
          obtain ⟨na', rfl, hna, n0, n1⟩ := RC_at rN hq
          obtain ⟨Y, hY⟩ : ∃ Y, wr.alloc (.cells #[.int .i64 q.1, .int .i64 q.2] 47) = Y := ⟨_, rfl⟩
          have bY : Below wr.heap.size wr Y := hY ▸ box1 _ _
          have TY : Two Y wr.heap.size q.1 q.2 := by rw [← hY]; exact Two.newAt rfl
          have hdY : Below Y.heap.size Y Y.drew := ⟨rfl, rfl, rfl, Nat.le_refl _, fun _ _ => rfl⟩
          have bYd := bt bY hdY
          have HIn := hide (inside_is (gx.upto bYd) (Ex.upto bYd).1 (Ex.upto bYd).2.1 (Ex.upto bYd).2.2 kx ky q.1 q.2 hr hqh (rN.upto bYd) (fun r hr' => ((hIN.2 r).1 hr').inB' hW hH hS hr) (by omega))
          obtain ⟨fa, fc, hFA⟩ := slice_E (hK.ra j q (Nat.le_refl _) hq)
          have oy := (bYd.block _ (Array.getElem?_eq_some_iff.1 ox).1).trans ox
          have k0 : Y.drew.cell? ⟨w.heap.size, 0, none⟩ = some (.int .i64 kx) := by rw [cell_of_row Y.drew _ 0 _ _ _ oy]; rfl
          have k1 : Y.drew.cell? ⟨w.heap.size, 1, none⟩ = some (.int .i64 ky) := by rw [cell_of_row Y.drew _ 1 _ _ _ oy]; rfl
          obtain ⟨⟨t0, t1⟩, -, -⟩ := id TY
          have HS : (Y.drew.cell? ⟨w.heap.size, 0, none⟩ = some (.int .i64 kx) ∧ Y.drew.cell? ⟨w.heap.size, 1, none⟩ = some (.int .i64 ky) ∧ Y.drew.cell? ⟨wr.heap.size, 0, none⟩ = some (.int .i64 q.1) ∧ Y.drew.cell? ⟨wr.heap.size, 1, none⟩ = some (.int .i64 q.2)) ∧ MapS nilS Y.drew mb KA FA := ⟨⟨k0, k1, t0, t1⟩, mA.upto bYd⟩
          have HY := hide hY
          have HFA := hide hFA
          have Hq := hide (And.intro hq (And.intro h641 (And.intro h642 (And.intro hqN bYd))))
          have HK := hide hK
          have oY : Y.heap[wr.heap.size]? = some (.cells #[.int .i64 q.1, .int .i64 q.2] 47 (0, 0)) := hY ▸ heap_alloc_new wr _
          have Hgx := hide (And.intro gx (And.intro oY bY))
          have hki : (j : Int) < (NL.length : Nat) := by omega
          have H64 := hide (And.intro h641 h642)
          clear A3 hao hne3 hRN hb23 hIN hebl m1 m2 m3 m4 hTw gr Er or hn rN g3 gx o3 ox hqN hW hH hr hS hKW hKE hqi hcl hqs hqh h641 h642 hmbe mA T0 hmo0 hmo Ex hna bY TY oY hdY bYd oy k0 k1 t0 t1 hY hFA hq hK hlt hpb pcs
          obtain ⟨qx, hqx⟩ : ∃ z, q.1 = z := ⟨_, rfl⟩
          obtain ⟨qy, hqy⟩ : ∃ z, q.2 = z := ⟨_, rfl⟩
          obtain rfl : q = (qx, qy) := Prod.ext hqx hqy
          simp only at n0 n1 HS HY HFA Hq HIn Hgx H64
          clear hqx hqy
          go_wp2_with (rw [HY.out])
          refine wp_only ?_
          refine wp_region_z (fun wx : World => (wx.cell? ⟨w.heap.size, 0, none⟩ = some (.int .i64 kx) ∧ wx.cell? ⟨w.heap.size, 1, none⟩ = some (.int .i64 ky) ∧ wx.cell? ⟨wr.heap.size, 0, none⟩ = some (.int .i64 qx) ∧ wx.cell? ⟨wr.heap.size, 1, none⟩ = some (.int .i64 qy)) ∧ MapS nilS wx mb KA FA) [8, 9] (by kernel_rfl) ?_
          refine anyZ_take 0 8 (v := .map (some mb)) rfl (by kernel_rfl) (fun _ _ _ h => h.elim) (Or.inl ⟨by rfl, fun wx hx => by obtain ⟨⟨x0, x1, x2, x3⟩, -⟩ := hx; clear HS; go_simp⟩) HS ?_
          try simp only [Act.put, List.getElem_toArray, List.getElem_cons_zero, List.getElem_cons_succ, List.setIfInBounds_toArray, List.set_cons_zero, List.set_cons_succ]
          refine anyZ_take 1 8 (v := cel qx qy) rfl (by kernel_rfl) (fun _ _ _ h => h.elim) (Or.inl ⟨by rfl, fun wx hx => by obtain ⟨⟨x0, x1, x2, x3⟩, -⟩ := hx; clear HS; go_simp⟩) HS ?_
          try simp only [Act.put, List.getElem_toArray, List.getElem_cons_zero, List.getElem_cons_succ, List.setIfInBounds_toArray, List.set_cons_zero, List.set_cons_succ]
          refine anyZ_take 2 8 (v := .slice fa (acE (acL (stB W H tl f c s) W H kx ky) (qx, qy)).length fc) rfl (by kernel_rfl) (fun _ _ _ h => h.elim) (Or.inl ⟨by rfl, fun wx hx => by rw [← HFA.out]; exact run_look Tryz.underlying65 (by kernel_rfl) H64.out.1 H64.out.2 (by rfl) (by rfl) (by rfl) hx.2⟩) HS ?_
          try simp only [Act.put, List.getElem_toArray, List.getElem_cons_zero, List.getElem_cons_succ, List.setIfInBounds_toArray, List.set_cons_zero, List.set_cons_succ]
          refine anyZ_take 3 8 (v := ptr gp) rfl (by kernel_rfl) (fun _ _ _ h => h.elim) (Or.inl ⟨by rfl, fun wx hx => by obtain ⟨⟨x0, x1, x2, x3⟩, -⟩ := hx; clear HS; go_simp⟩) HS ?_
          try simp only [Act.put, List.getElem_toArray, List.getElem_cons_zero, List.getElem_cons_succ, List.setIfInBounds_toArray, List.set_cons_zero, List.set_cons_succ]
          refine anyZ_take 4 8 (v := cel kx ky) rfl (by kernel_rfl) (fun _ _ _ h => h.elim) (Or.inl ⟨by rfl, fun wx hx => by obtain ⟨⟨x0, x1, x2, x3⟩, -⟩ := hx; clear HS; go_simp⟩) HS ?_
          try simp only [Act.put, List.getElem_toArray, List.getElem_cons_zero, List.getElem_cons_succ, List.setIfInBounds_toArray, List.set_cons_zero, List.set_cons_succ]
          refine anyZ_take 5 8 (v := cel qx qy) rfl (by kernel_rfl) (fun _ _ _ h => h.elim) (Or.inl ⟨by rfl, fun wx hx => by obtain ⟨⟨x0, x1, x2, x3⟩, -⟩ := hx; clear HS; go_simp⟩) HS ?_
          try simp only [Act.put, List.getElem_toArray, List.getElem_cons_zero, List.getElem_cons_succ, List.setIfInBounds_toArray, List.set_cons_zero, List.set_cons_succ]
          refine anyZ_take 6 8 (v := .slice (some ⟨na', 0, none⟩) NL.length nc) rfl (by kernel_rfl) (fun _ _ _ h => h.elim) (Or.inl ⟨by rfl, fun wx hx => by obtain ⟨⟨x0, x1, x2, x3⟩, -⟩ := hx; clear HS; go_simp⟩) HS ?_
          try simp only [Act.put, List.getElem_toArray, List.getElem_cons_zero, List.getElem_cons_succ, List.setIfInBounds_toArray, List.set_cons_zero, List.set_cons_succ]
          refine anyZ_ready (rs := [7]) (by kernel_rfl) (by simp) ?_
          refine readyZ.call rfl rfl (run_c59 (by rfl) (by rfl) (by simp only [List.map_toArray, List.map_cons, List.map_nil]; rfl)) (HIn.out) ?_ readyZ.nil
          rintro e w5 ⟨lv, C, rfl, hT, hRI, hb5, hown5⟩
          have HS5 : (w5.cell? ⟨w.heap.size, 0, none⟩ = some (.int .i64 kx) ∧ w5.cell? ⟨w.heap.size, 1, none⟩ = some (.int .i64 ky) ∧ w5.cell? ⟨wr.heap.size, 0, none⟩ = some (.int .i64 qx) ∧ w5.cell? ⟨wr.heap.size, 1, none⟩ = some (.int .i64 qy)) ∧ MapS nilS w5 mb KA FA := by
            obtain ⟨⟨y0, y1, y2, y3⟩, y4⟩ := HS
            exact ⟨⟨(hb5.cell (World.block_lt_of_cell? _ _ y0)).trans y0, (hb5.cell (World.block_lt_of_cell? _ _ y1)).trans y1, (hb5.cell (World.block_lt_of_cell? _ _ y2)).trans y2, (hb5.cell (World.block_lt_of_cell? _ _ y3)).trans y3⟩, y4.upto hb5⟩
          refine ⟨_, rfl, fun _ => HS5, ?_⟩
          try simp only [Act.put, List.getElem_toArray, List.getElem_cons_zero, List.getElem_cons_succ, List.setIfInBounds_toArray, List.set_cons_zero, List.set_cons_succ]
          have b5 := bt Hq.out.2.2.2.2 hb5
          have rF := (HK.out.ra j (qx, qy) (Nat.le_refl _) Hq.out.1).upto b5
          simp only at rF
          rw [HFA.out] at rF
          have hil := insL_len C (kx * 8) (ky * 8) (rS W kx) NL
          have hal : (acE (acL (stB W H tl f c s) W H kx ky) (qx, qy)).length ≤ 32 := Nat.le_trans (acE_len _ _) acL_len
          obtain ⟨v6, w6, r6, q6, p6, T6⟩ := add_E rF hRI (by omega)
          refine anyZ_ready (rs := [8]) (by kernel_rfl) (by simp) ?_
          refine readyZ.cons rfl rfl (run_app (by rfl) (by rfl) (by rfl) r6) (fun h => absurd (by decide) h) ?_ readyZ.nil
          try simp only [Act.put, List.getElem_toArray, List.getElem_cons_zero, List.getElem_cons_succ, List.setIfInBounds_toArray, List.set_cons_zero, List.set_cons_succ]
          refine anyZ_ready (rs := [9]) (by kernel_rfl) (by simp) ?_
          refine readyZ.cons rfl rfl (run_assign (v := v6) (by rfl) (by rfl)) (fun h => absurd (by decide) h) ?_ readyZ.nil
          try simp only [Act.put, List.getElem_toArray, List.getElem_cons_zero, List.getElem_cons_succ, List.setIfInBounds_toArray, List.set_cons_zero, List.set_cons_succ]
          refine anyZ_done (by kernel_rfl) ?_ _
          dsimp only [Only, Exit.then]
          have Hs := hide (sort_E (by rw [List.length_append]; omega) q6)
          obtain ⟨va, vn, vc, hv6⟩ : ∃ a n c, v6 = .slice a n c := by obtain ⟨a, c, e⟩ := slice_E q6; exact ⟨_, _, _, e⟩
          subst hv6
          have o5 := (hb5.block wr.heap.size (Array.getElem?_eq_some_iff.1 Hgx.out.2.1).1).trans Hgx.out.2.1
          have o6 := T6.same (fun e => by obtain ⟨cur, hc⟩ := rF.blk e; rw [o5] at hc; cases hc) o5
          have hvb : ∀ g, (Value.slice va vn vc).ownBlock = some g → g ≠ wr.heap.size := fun g e e2 => by obtain ⟨cur, hc⟩ := q6.blk e; rw [e2, o6] at hc; cases hc
          have HE6 := hide (And.intro hT (And.intro b5 (And.intro p6 (And.intro T6 (And.intro o6 hvb)))))
          clear HS HS5 hT hRI hb5 hown5 b5 rF hil hal r6 q6 p6 T6 HIn o5 o6 hvb
          go_wp2_with fail
          refine Hs.out.mono ?_
          rintro e w7 ⟨rfl, M, m1, m2, m3, m4⟩
          obtain ⟨A3, hao, hne3, hRN, hb23, hIN, hebl⟩ := H3.out
          obtain ⟨hT, b5, p6, T6, o6, hvb⟩ := HE6.out
          obtain ⟨hW, hH, -, hS, hKW, hKE⟩ := Hnum.out
          have hr : rB W H kx ky = true := by
            have h1 := Hq.out.2.2.2.1.in hW hH hS
            have h2 := in_rB hW hH (hS _ _ h1.2)
            rwa [h1.1.1, h1.1.2] at h2
          have hd7 : Below w7.heap.size w7 w7.drew := ⟨rfl, rfl, rfl, Nat.le_refl _, fun _ _ => rfl⟩
          have hFo : (FA qx qy).ownBlock = (Value.slice fa (acE (acL (stB W H tl f c s) W H kx ky) (qx, qy)).length fc).ownBlock := by rw [HFA.out]
          have T67 : Turns (fun k => (FA qx qy).ownBlock = some k) wr w7.drew := by
            rw [hFo]
            refine ((Turns.of_below b5).trans (T6.mono (fun k _ e => .inl e))).trans ?_
            refine (m4.trans (Turns.of_below hd7)).mono (fun k _ e => ?_)
            rcases p6 k e with q | q
            · exact .inl q
            · exact .inr (by have := b5.size; omega)
          have hIE : IsE W H tl f c s kx ky (qx, qy) M := edges_of hW hH hS hr hIN hT m1 m2
          obtain ⟨Z, rZ, KZ⟩ := HK.out.step hIN.1.nodup Hq.out.1 A3.apart (fun x y g e => ⟨Nat.le_trans hws (hao x y g e).1, (hao x y g e).2⟩) T67 (m3.upto hd7) (fun g e => by
            rw [hFo]
            rcases p6 g e with q | q
            · exact .inl q
            · exact .inr (by have := b5.size; omega)) hIE hne3 hebl Hq.out.2.1 Hq.out.2.2.1 (by have := Hr.out.2.2.2.1; omega)
          have g7 := Hgx.out.1.kept T67 (fun e => by
            obtain ⟨cur, hc⟩ := (HK.out.ra j (qx, qy) (Nat.le_refl _) Hq.out.1).blk e
            rw [Hgx.out.1] at hc
            cases hc)
          have o7 : w7.drew.heap[wr.heap.size]? = some (.cells #[.int .i64 qx, .int .i64 qy] 47 (0, 0)) := m4.same (fun e => hvb _ e rfl) o6
          have t0 : w7.drew.cell? ⟨wr.heap.size, 0, none⟩ = some (.int .i64 qx) := by rw [cell_of_row w7.drew _ 0 _ _ _ o7]; rfl
          have t1 : w7.drew.cell? ⟨wr.heap.size, 1, none⟩ = some (.int .i64 qy) := by rw [cell_of_row w7.drew _ 1 _ _ _ o7]; rfl
          have HS : w7.drew.cell? ⟨gp, 5, none⟩ = some (.map (some eb)) ∧ w7.drew.cell? ⟨wr.heap.size, 0, none⟩ = some (.int .i64 qx) ∧ w7.drew.cell? ⟨wr.heap.size, 1, none⟩ = some (.int .i64 qy) := ⟨g7.c5, t0, t1⟩
          have HZ := hide (And.intro rZ KZ)
          clear A3 hao hne3 hRN hb23 hIN hebl hT b5 p6 T6 hW hH hr hS hKW hKE hd7 hFo T67 hIE rZ KZ g7 o6 o7 hvb t0 t1 m1 m2 m3 m4 Hs HE6
          go_wp2_with fail
          refine wp_only ?_
          refine wp_region_z (fun wx : World => wx.cell? ⟨gp, 5, none⟩ = some (.map (some eb)) ∧ wx.cell? ⟨wr.heap.size, 0, none⟩ = some (.int .i64 qx) ∧ wx.cell? ⟨wr.heap.size, 1, none⟩ = some (.int .i64 qy)) [6] (by kernel_rfl) ?_
          refine anyZ_take 0 8 (v := ptr gp) rfl (by kernel_rfl) (fun _ _ _ h => h.elim) (Or.inl ⟨by rfl, fun wx hx => by obtain ⟨x0, x1, x2⟩ := hx; clear HS; go_simp⟩) HS ?_
          try simp only [Act.put, List.getElem_toArray, List.getElem_cons_zero, List.getElem_cons_succ, List.setIfInBounds_toArray, List.set_cons_zero, List.set_cons_succ]
          refine anyZ_take 1 8 (v := ptr gp) rfl (by kernel_rfl) (fun _ _ _ h => h.elim) (Or.inl ⟨by rfl, fun wx hx => by obtain ⟨x0, x1, x2⟩ := hx; clear HS; go_simp⟩) HS ?_
          try simp only [Act.put, List.getElem_toArray, List.getElem_cons_zero, List.getElem_cons_succ, List.setIfInBounds_toArray, List.set_cons_zero, List.set_cons_succ]
          refine anyZ_take 2 8 (v := .pointer (some ⟨gp, 5, none⟩)) rfl (by kernel_rfl) (fun _ _ _ h => h.elim) (Or.inl ⟨by rfl, fun wx hx => by obtain ⟨x0, x1, x2⟩ := hx; clear HS; go_simp⟩) HS ?_
          try simp only [Act.put, List.getElem_toArray, List.getElem_cons_zero, List.getElem_cons_succ, List.setIfInBounds_toArray, List.set_cons_zero, List.set_cons_succ]
          refine anyZ_take 3 8 (v := .map (some eb)) rfl (by kernel_rfl) (fun _ _ _ h => h.elim) (Or.inl ⟨by rfl, fun wx hx => by obtain ⟨x0, x1, x2⟩ := hx; clear HS; go_simp⟩) HS ?_
          try simp only [Act.put, List.getElem_toArray, List.getElem_cons_zero, List.getElem_cons_succ, List.setIfInBounds_toArray, List.set_cons_zero, List.set_cons_succ]
          refine anyZ_take 4 8 (v := cel qx qy) rfl (by kernel_rfl) (fun _ _ _ h => h.elim) (Or.inl ⟨by rfl, fun wx hx => by obtain ⟨x0, x1, x2⟩ := hx; clear HS; go_simp⟩) HS ?_
          try simp only [Act.put, List.getElem_toArray, List.getElem_cons_zero, List.getElem_cons_succ, List.setIfInBounds_toArray, List.set_cons_zero, List.set_cons_succ]
          refine anyZ_take 5 8 (v := .slice va vn vc) rfl (by kernel_rfl) (fun _ _ _ h => h.elim) (Or.inl ⟨by rfl, fun wx hx => by obtain ⟨x0, x1, x2⟩ := hx; clear HS; go_simp⟩) HS ?_
          try simp only [Act.put, List.getElem_toArray, List.getElem_cons_zero, List.getElem_cons_succ, List.setIfInBounds_toArray, List.set_cons_zero, List.set_cons_succ]
          refine anyZ_ready (rs := [6]) (by kernel_rfl) (by simp) ?_
          refine readyZ.skip rfl rfl (run_upd (by rfl) (by rfl) (by rfl) (by rfl) HZ.out.1) (fun h => absurd (by decide) h) ?_ readyZ.nil
          try simp only [Act.put, List.getElem_toArray, List.getElem_cons_zero, List.getElem_cons_succ, List.setIfInBounds_toArray, List.set_cons_zero, List.set_cons_succ]
          refine anyZ_done (by kernel_rfl) ?_ _
          dsimp only [Only, Exit.then]
          clear HS
          go_wp2_with fail
          go_roundw
          case rel => exact ⟨j + 1, by go_num, by omega, HZ.out.2⟩
          case measure => simp only [intOf]; omega
        · have hj' : j = NL.length := by omega
          subst hj'
          obtain ⟨K, F, LE2, k1, k2, k3, k4, k5, k6, k7⟩ := hK.m
          rw [List.take_length] at k2 k6 k7
          have Tall : Turns (fun k => k = eb) w wr := hTw.trans (((Turns.of_below (S := fun k => k = eb) hb23).trans (hK.T.mono (fun k _ e => e.imp id (fun ⟨x, y, e⟩ => (hao x y k e).1)))).mono (fun k _ e => .inl e))
          have hdr : Below wr.heap.size wr wr.drew := ⟨rfl, rfl, rfl, Nat.le_refl _, fun _ _ => rfl⟩
          have mW := (Hst.out.2.2.1.kept Tall Hst.out.1.ne).upto hdr
          have rNd := rN.upto hdr
          obtain ⟨Z, rZ, mZ, gZ⟩ := mW.put Tryz.underlying64 HW64.out.1 HW64.out.2 (isS_row rNd) (by have := Hnum.out.2.2.2.2.1; unfold maxLen; omega)
          have TZ : Turns (fun k => k = wb) wr.drew Z := Turns.of_grown gZ (fun k e => by cases e; rfl)
          have TZw : Turns (fun k => k = wb) wr Z := (Turns.of_below hdr).trans (TZ.mono (fun k _ e => .inl e))
          have Tfin : Turns (fun k => k = wb ∨ k = eb) w Z := (Tall.mono (fun k _ e => .inr e)).trans (TZw.mono (fun k _ e => .inl (.inl e)))
          have hwbk : ∃ es cl, wr.heap[wb]? = some (.map es cl) := mW.blk
          obtain ⟨pcs, hpb⟩ := Hst.out.2.1.pblk
          have hpne : ¬ (p = wb ∨ p = eb) := fun e => e.elim (not_map Hst.out.1.wblk hpb) (not_map Hst.out.1.eblk hpb)
          have hp6 : Z.cell? ⟨p, 6, none⟩ = w.cell? ⟨p, 6, none⟩ := World.cell?_of_block (a := ⟨p, 6, none⟩) (Tfin.block p Hsz.out.2.2.2.2 hpne)
          have hGZ : GS Z gp p c s ep wb eb (kput KW (kx, ky)) (updL LW (kx, ky) NL) K LE2 := by
            refine ⟨Hst.out.1.g.kept Tfin (fun e => e.elim (not_map Hst.out.1.wblk Hst.out.1.g) (not_map Hst.out.1.eblk Hst.out.1.g)), Hst.out.1.ne, by rw [hp6]; exact Hst.out.1.nw, ⟨_, mZ, fun x y => ?_⟩, F, k1.kept TZw (fun e => Hst.out.1.ne e.symm), fun x y => (k4 x y).kept TZw (fun g e => by obtain ⟨cur, hc⟩ := (k4 x y).blk e; exact not_map hwbk hc)⟩
            unfold fput updL
            by_cases e : x = kx ∧ y = ky
            · rw [if_pos e, if_pos (by rw [e.1, e.2])]
              exact rNd.kept TZ (fun g e => by obtain ⟨cur, hc⟩ := rNd.blk e; exact not_map mW.blk hc)
            · rw [if_neg e, if_neg (fun q => e (by simpa using q))]
              exact (Hst.out.2.2.2.1 x y).kept Tfin (fun g e => by obtain ⟨cur, hc⟩ := (Hst.out.2.2.2.1 x y).blk e; exact fun q => q.elim (not_map Hst.out.1.wblk hc) (not_map Hst.out.1.eblk hc))
          have hend : RckEnd w Z gp p c s ep wb eb KW LW KE LE W H tl f kx ky := by
            refine ⟨NL, kput KW (kx, ky), K, LE2, hIN, hNl2, hGZ, k6, fun q h1 h2 => ?_, fun q h1 h2 => ?_, fun q => ?_, ⟨?_, fun k hk => mem_kput.1 hk⟩, by omega, Tfin⟩
            · rw [k7 q h1, if_pos (by rw [← HO.out.1]; exact h2)]
            · rw [k7 q h1, if_neg (by rw [← HO.out.1]; exact h2)]
            · rw [k2, m2, HO.out.1]
            · unfold kput
              split
              · omega
              · rw [List.length_append, List.length_singleton]; omega
          have oy := (hdr.block _ (Array.getElem?_eq_some_iff.1 ox).1).trans ox
          have e0 : wr.drew.cell? ⟨w.heap.size, 0, none⟩ = some (.int .i64 kx) := by rw [cell_of_row wr.drew _ 0 _ _ _ oy]; rfl
          have e1 : wr.drew.cell? ⟨w.heap.size, 1, none⟩ = some (.int .i64 ky) := by rw [cell_of_row wr.drew _ 1 _ _ _ oy]; rfl
          have HS : wr.drew.cell? ⟨gp, 4, none⟩ = some (.map (some wb)) ∧ wr.drew.cell? ⟨w.heap.size, 0, none⟩ = some (.int .i64 kx) ∧ wr.drew.cell? ⟨w.heap.size, 1, none⟩ = some (.int .i64 ky) := ⟨(gx.upto hdr).c4, e0, e1⟩
          have HZ := hide (And.intro rZ hend)
          clear A3 hao hne3 hRN hb23 hIN hebl m1 m2 m3 m4 hTw gr Er or hn rN g3 gx o3 ox k1 k2 k3 k4 k5 k6 k7 Tall hdr mW rNd rZ mZ gZ TZ TZw Tfin hwbk hpb hpne hp6 hGZ hend oy e0 e1 hK hj pcs
          go_wp2_with fail
          refine wp_only ?_
          refine wp_region_z (fun wx : World => wx.cell? ⟨gp, 4, none⟩ = some (.map (some wb)) ∧ wx.cell? ⟨w.heap.size, 0, none⟩ = some (.int .i64 kx) ∧ wx.cell? ⟨w.heap.size, 1, none⟩ = some (.int .i64 ky)) [6] (by kernel_rfl) ?_
          refine anyZ_take 0 8 (v := ptr gp) rfl (by kernel_rfl) (fun _ _ _ h => h.elim) (Or.inl ⟨by rfl, fun wx hx => by obtain ⟨x0, x1, x2⟩ := hx; clear HS; go_simp⟩) HS ?_
          try simp only [Act.put, List.getElem_toArray, List.getElem_cons_zero, List.getElem_cons_succ, List.setIfInBounds_toArray, List.set_cons_zero, List.set_cons_succ]
          refine anyZ_take 1 8 (v := ptr gp) rfl (by kernel_rfl) (fun _ _ _ h => h.elim) (Or.inl ⟨by rfl, fun wx hx => by obtain ⟨x0, x1, x2⟩ := hx; clear HS; go_simp⟩) HS ?_
          try simp only [Act.put, List.getElem_toArray, List.getElem_cons_zero, List.getElem_cons_succ, List.setIfInBounds_toArray, List.set_cons_zero, List.set_cons_succ]
          refine anyZ_take 2 8 (v := .pointer (some ⟨gp, 4, none⟩)) rfl (by kernel_rfl) (fun _ _ _ h => h.elim) (Or.inl ⟨by rfl, fun wx hx => by obtain ⟨x0, x1, x2⟩ := hx; clear HS; go_simp⟩) HS ?_
          try simp only [Act.put, List.getElem_toArray, List.getElem_cons_zero, List.getElem_cons_succ, List.setIfInBounds_toArray, List.set_cons_zero, List.set_cons_succ]
          refine anyZ_take 3 8 (v := .map (some wb)) rfl (by kernel_rfl) (fun _ _ _ h => h.elim) (Or.inl ⟨by rfl, fun wx hx => by obtain ⟨x0, x1, x2⟩ := hx; clear HS; go_simp⟩) HS ?_
          try simp only [Act.put, List.getElem_toArray, List.getElem_cons_zero, List.getElem_cons_succ, List.setIfInBounds_toArray, List.set_cons_zero, List.set_cons_succ]
          refine anyZ_take 4 8 (v := cel kx ky) rfl (by kernel_rfl) (fun _ _ _ h => h.elim) (Or.inl ⟨by rfl, fun wx hx => by obtain ⟨x0, x1, x2⟩ := hx; clear HS; go_simp⟩) HS ?_
          try simp only [Act.put, List.getElem_toArray, List.getElem_cons_zero, List.getElem_cons_succ, List.setIfInBounds_toArray, List.set_cons_zero, List.set_cons_succ]
          refine anyZ_take 5 8 (v := .slice na NL.length nc) rfl (by kernel_rfl) (fun _ _ _ h => h.elim) (Or.inl ⟨by rfl, fun wx hx => by obtain ⟨x0, x1, x2⟩ := hx; clear HS; go_simp⟩) HS ?_
          try simp only [Act.put, List.getElem_toArray, List.getElem_cons_zero, List.getElem_cons_succ, List.setIfInBounds_toArray, List.set_cons_zero, List.set_cons_succ]
          refine anyZ_ready (rs := [6]) (by kernel_rfl) (by simp) ?_
          refine readyZ.skip rfl rfl (run_upd (by rfl) (by rfl) (by rfl) (by rfl) HZ.out.1) (fun h => absurd (by decide) h) ?_ readyZ.nil
          try simp only [Act.put, List.getElem_toArray, List.getElem_cons_zero, List.getElem_cons_succ, List.setIfInBounds_toArray, List.set_cons_zero, List.set_cons_succ]
          refine anyZ_done (by kernel_rfl) ?_ _
          dsimp only [Only, Exit.then]
          go_end0
          exact ⟨rfl, HZ.out.2⟩
end Go.Proofs.YthiafmlgialbnaaGreatDoor
set_option linter.unusedSimpArgs false
namespace Go.Proofs.YthiafmlgialbnaaGreatDoor
open Go.RowKit Go.Shelf
set_option linter.unusedVariables false
/-- A cell's cluster. -/
def clu (q : Int × Int) : Int × Int := (q.1 / 8, q.2 / 8)
/-- The graph's lists are the world's in the clusters D. -/
structure GD (W H : Int) (tl : List Nat) (f : Int → Int → Option Int) (c s : Int) (D : Int × Int → Prop) (LW : Int × Int → List (Int × Int)) (KE : List (Int × Int)) (LE : Int × Int → List E3) : Prop where
  fa : ∀ k, D k → IsN (stB W H tl f c s) W H k.1 k.2 (LW k)
  fb : ∀ k q, q ∈ LW k → clu q = k ∧ (0 ≤ q.1 ∧ q.1 < W) ∧ 0 ≤ q.2 ∧ q.2 < H
  fc : ∀ q, q ∈ KE ↔ q ∈ LW (clu q)
  fd : ∀ q, D (clu q) → q ∈ KE → IsE W H tl f c s (clu q).1 (clu q).2 q (LE q)
  fe : ∀ q, q ∉ KE → LE q = []
  fl : ∀ k, (LW k).length ≤ 32
section
variable {W H : Int} {tl : List Nat} {f : Int → Int → Option Int} {c s : Int} {D : Int × Int → Prop} {LW : Int × Int → List (Int × Int)} {KE : List (Int × Int)} {LE : Int × Int → List E3}
theorem GD.none : GD W H tl f c s (fun _ => False) (fun _ => []) [] (fun _ => []) := ⟨fun _ h => h.elim, fun _ _ h => by simp at h, fun _ => by simp, fun _ h => h.elim, fun _ _ => rfl, fun _ => by simp⟩
theorem GD.w64 (hW : 1 ≤ W ∧ W ≤ 128) (hH : 1 ≤ H ∧ H ≤ 128) (h : GD W H tl f c s D LW KE LE) (k : Int × Int) : ∀ q ∈ LW k, W64 q.1 ∧ W64 q.2 := fun q hq => by
  have := (h.fb k q hq).2
  exact ⟨w64_of (by omega), w64_of (by omega)⟩
theorem GD.step (hW : 1 ≤ W ∧ W ≤ 128) (hH : 1 ≤ H ∧ H ≤ 128) (hS : ∀ u v, stB W H tl f c s u v = true → (0 ≤ u ∧ u < W) ∧ 0 ≤ v ∧ v < H) (h : GD W H tl f c s D LW KE LE) {k : Int × Int} {NL KE' : List (Int × Int)} {LE' : Int × Int → List E3} (hN : IsN (stB W H tl f c s) W H k.1 k.2 NL) (hl : NL.length ≤ 32)
    (h1 : ∀ q ∈ NL, IsE W H tl f c s k.1 k.2 q (LE' q)) (h2 : ∀ q, q ∉ NL → q ∈ LW k → LE' q = []) (h3 : ∀ q, q ∉ NL → q ∉ LW k → LE' q = LE q) (h4 : ∀ q, q ∈ KE' ↔ (q ∈ KE ∧ q ∉ LW k) ∨ q ∈ NL) : GD W H tl f c s (fun k' => D k' ∨ k' = k) (updL LW k NL) KE' LE' := by
  have hNk : ∀ q ∈ NL, clu q = k ∧ (0 ≤ q.1 ∧ q.1 < W) ∧ 0 ≤ q.2 ∧ q.2 < H := fun q hq => by
    have h9 := ((hN.2 q).1 hq).in hW hH hS
    exact ⟨Prod.ext h9.1.1 h9.1.2, hS _ _ h9.2⟩
  refine ⟨fun k' hk => ?_, fun k' q hq => ?_, fun q => ?_, fun q hD hq => ?_, fun q hq => ?_, fun k' => ?_⟩
  · unfold updL
    by_cases e : k' = k
    · rw [if_pos e, e]; exact hN
    · rw [if_neg e]; exact h.fa k' (hk.resolve_right e)
  · unfold updL at hq
    by_cases e : k' = k
    · rw [if_pos e] at hq; rw [e]; exact hNk q hq
    · rw [if_neg e] at hq; exact h.fb k' q hq
  · rw [h4]
    unfold updL
    by_cases e : clu q = k
    · rw [if_pos e]
      exact ⟨fun q1 => q1.elim (fun q2 => absurd (e ▸ (h.fc q).1 q2.1) q2.2) id, .inr⟩
    · rw [if_neg e, ← h.fc q]
      exact ⟨fun q1 => q1.elim (fun q2 => q2.1) (fun q2 => absurd (hNk q q2).1 e), fun q1 => .inl ⟨q1, fun q2 => e (h.fb k q q2).1⟩⟩
  · by_cases e : q ∈ NL
    · have := h1 q e
      rw [(hNk q e).1]; exact this
    · have hq2 := ((h4 q).1 hq).resolve_right e
      rw [h3 q e hq2.2]
      have hne : clu q ≠ k := fun q1 => hq2.2 (q1 ▸ (h.fc q).1 hq2.1)
      exact h.fd q (hD.resolve_right hne) hq2.1
  · have hq2 : q ∉ NL ∧ ¬ (q ∈ KE ∧ q ∉ LW k) := ⟨fun e => hq ((h4 q).2 (.inr e)), fun e => hq ((h4 q).2 (.inl e))⟩
    by_cases e : q ∈ LW k
    · exact h2 q hq2.1 e
    · rw [h3 q hq2.1 e]
      exact h.fe q (fun q1 => hq2.2 ⟨q1, e⟩)
  · unfold updL
    split
    · exact hl
    · exact h.fl k'
theorem GD.mono {D' : Int × Int → Prop} (h : GD W H tl f c s D LW KE LE) (hd : ∀ k, D' k → D k) : GD W H tl f c s D' LW KE LE := ⟨fun k hk => h.fa k (hd k hk), h.fb, h.fc, fun q hq => h.fd q (hd _ hq), h.fe, h.fl⟩
end
/-- A graph that is its world's. -/
def GOk (w : World) (gp p : Nat) (c s ep : Int) (wb eb : Nat) (W H : Int) (tl : List Nat) (f : Int → Int → Option Int) : Prop :=
  ∃ KW LW KE LE, GS w gp p c s ep wb eb KW LW KE LE ∧ GD W H tl f c s (fun k => rB W H k.1 k.2 = true) LW KE LE ∧ (∀ k ∈ KW, rB W H k.1 k.2 = true)
theorem alloc_let (V : World) (o : Obj) : ∃ V' b, V.alloc o = V' ∧ V.heap.size = b ∧ V'.heap[b]? = some o ∧ (∀ k o', V.heap[k]? = some o' → V'.heap[k]? = some o' ∧ k ≠ b) ∧ Below V.heap.size V V' :=
  ⟨_, _, rfl, rfl, heap_alloc_new V o, fun k o' h => ⟨((box1 V o).block k (Array.getElem?_eq_some_iff.1 h).1).trans h, fun e => by have := (Array.getElem?_eq_some_iff.1 h).1; omega⟩, box1 V o⟩
theorem by_way5 {F G : World → Nat → Nat → Nat → Nat → Prop} {C : Prop} (h1 : (∀ V a b d e, F V a b d e → G V a b d e) → C) (h2 : ∀ V a b d e, F V a b d e → G V a b d e) : C := h1 h2
section
variable {ev : Operand → Value} {o : Oper} {w : World}
theorem run_make {t : TypeId} (ho : o.op = .makeMap t none) : (execOp ev o).run Tryz.prog w = .ok (.value (.map (some w.heap.size))) (w.alloc (.map #[] 0)) := by
  have hr := run_makeMap (P := Tryz.prog) t w
  unfold execOp
  simp only [ho]
  simp only [Sem.run_bind, hr, Result.andThen]
  rfl
theorem run_alloc34 (ho : o.op = .alloc 34) : (execOp ev o).run Tryz.prog w = .ok (.value (ptr w.heap.size)) (w.alloc (.cells #[.pointer none] 34)) := by
  unfold execOp
  simp only [ho]
  go_simp
theorem run_box67 {x : Operand} {a0 a1 a2 a3 a4 a5 : Value} (ho : o.op = .box 67 x) (hx : ev x = .agg #[a0, a1, a2, a3, a4, a5]) : (execOp ev o).run Tryz.prog w = .ok (.value (ptr w.heap.size)) (w.alloc (.cells #[a0, a1, a2, a3, a4, a5] 67)) := by
  unfold execOp
  simp only [ho, hx]
  go_simp
theorem run_put34 {x y : Operand} {k g : Nat} {v : Value} (ho : o.op = .store 34 x y) (hx : ev x = ptr k) (hy : ev y = ptr g) (hF : w.heap[k]? = some (.cells #[v] 34 (0, 0))) :
    (execOp ev o).run Tryz.prog w = .ok .skip (w.setCell ⟨k, 0, none⟩ (ptr g)) := by
  have c0 : w.cell? ⟨k, 0, none⟩ = some v := by rw [cell_of_row w k 0 _ _ _ hF]; rfl
  have f0 : w.frozen? ⟨k, 0, none⟩ = false := by simp [World.frozen?, hF]
  clear hF
  unfold execOp
  rw [ho]
  simp only [hx, hy]
  go_simp
end
end Go.Proofs.YthiafmlgialbnaaGreatDoor
set_option linter.unusedSimpArgs false
namespace Go.Proofs.YthiafmlgialbnaaGreatDoor
open Go.RowKit Go.Shelf
set_option linter.unusedVariables false
attribute [local go_sem] Oper.semAt_some
theorem run_c18 {ev : Operand → Value} {o : Oper} {w : World} {ar : Array Operand} {ts : Array TypeId} {vs : Array Value} (hop : o.op = .call { callee := .value (.func 18), args := ar, argTypes := ts }) (hf : ev (.func 18) = .func (.func 18) #[] #[]) (hvs : ar.map ev = vs) : (execOp ev o).run Tryz.prog w = .ok (.enter 18 vs) w := by
  unfold execOp
  simp only [hop, resolve, hf, hvs]
  go_simp
def TwB (w : World) (B : Nat) (x y : Int) : Prop := w.heap[B]? = some (.cells #[.int .i64 x, .int .i64 y] 47 (0, 0))
theorem TwB.c {w : World} {B : Nat} {x y : Int} (h : TwB w B x y) : w.cell? ⟨B, 0, none⟩ = some (.int .i64 x) ∧ w.cell? ⟨B, 1, none⟩ = some (.int .i64 y) := ⟨by rw [cell_of_row w B 0 _ _ _ h]; rfl, by rw [cell_of_row w B 1 _ _ _ h]; rfl⟩
theorem keep_turns {B : Nat} {S : Nat → Prop} {X Y : World} (T : Turns S X Y) (hS : ∀ k, k < X.heap.size → S k → k < B) : Keep B X Y := ⟨T.size, fun k hk hl => T.block k hl (fun e => by have := hS k hl e; omega)⟩
/-- What New's rounds keep. -/
structure NwI (w Y : World) (p : Nat) (c s ep : Int) (gp wb eb h6 : Nat) (W H : Int) (tl : List Nat) (f : Int → Int → Option Int) (B : Nat) (pre : List Cel) : Prop where
  bel : Below w.heap.size w Y
  bx : Boxed Y h6 34 (ptr gp)
  lo : w.heap.size ≤ wb ∧ w.heap.size ≤ eb ∧ wb < B ∧ eb < B
  sz : B ≤ Y.heap.size
  gs : ∃ KW LW KE LE, GS Y gp p c s ep wb eb KW LW KE LE ∧ GD W H tl f c s (fun k => k ∈ pre.map (·.1)) LW KE LE ∧ KW.length ≤ pre.length ∧ KE.length ≤ 32 * pre.length ∧ ∀ k ∈ KW, k ∈ pre.map (·.1)
section
variable {w Y Y' : World} {p : Nat} {c s ep : Int} {gp wb eb h6 : Nat} {W H : Int} {tl : List Nat} {f : Int → Int → Option Int} {B : Nat} {pre : List Cel}
theorem GS.kept {KW : List (Int × Int)} {LW : Int × Int → List (Int × Int)} {KE : List (Int × Int)} {LE : Int × Int → List E3} {S : Nat → Prop} (h : GS Y gp p c s ep wb eb KW LW KE LE) (T : Turns S Y Y') (hp : p < Y.heap.size) (hpb : ∃ cs, Y.heap[p]? = some (.cells cs 101 (0, 0))) (hw : ¬ S wb) (he : ¬ S eb) (hc : ∀ k o, S k → Y.heap[k]? = some o → o.isCells = false) : GS Y' gp p c s ep wb eb KW LW KE LE := by
  have hn : ∀ {k : Nat} {cs : Array Value} {t : Nat} {fz : Nat × Nat}, Y.heap[k]? = some (.cells cs t fz) → ¬ S k := fun hk hs => by have := hc _ _ hs hk; cases this
  obtain ⟨FW, m1, m2⟩ := h.wm
  obtain ⟨FE, m3, m4⟩ := h.em
  obtain ⟨cs, hpb⟩ := hpb
  refine ⟨h.g.kept T (hn h.g), h.ne, ?_, ⟨FW, m1.kept T hw, fun x y => (m2 x y).kept T (fun g e => by obtain ⟨cur, q⟩ := (m2 x y).blk e; exact hn q)⟩, FE, m3.kept T he, fun x y => (m4 x y).kept T (fun g e => by obtain ⟨cur, q⟩ := (m4 x y).blk e; exact hn q)⟩
  rw [World.cell?_of_block (a := ⟨p, 6, none⟩) (T.block p hp (hn hpb))]
  exact h.nw
theorem NwI.turned {S : Nat → Prop} (hE : En w p W H tl f) (h : NwI w Y p c s ep gp wb eb h6 W H tl f B pre) (T : Turns S Y Y') (hlo : ∀ k, S k → B ≤ k) (hwB : w.heap.size ≤ B) (hc : ∀ k o, S k → Y.heap[k]? = some o → o.isCells = false) : NwI w Y' p c s ep gp wb eb h6 W H tl f B pre := by
  have hn : ∀ {k : Nat} {cs : Array Value} {t : Nat} {fz : Nat × Nat}, Y.heap[k]? = some (.cells cs t fz) → ¬ S k := fun hk hs => by have := hc _ _ hs hk; cases this
  obtain ⟨KW, LW, KE, LE, g1, g2⟩ := h.gs
  have hEY := hE.upto h.bel
  obtain ⟨bm, -, -, hpl⟩ := hEY.six
  refine ⟨h.bel.trans (T.below (fun k e => Nat.le_trans hwB (hlo k e)) h.bel.size), boxed_kept h.bx T (hn h.bx), h.lo, Nat.le_trans h.sz T.size, KW, LW, KE, LE, g1.kept T hpl hEY.pblk (fun e => by have := hlo _ e; have := h.lo; omega) (fun e => by have := hlo _ e; have := h.lo; omega) hc, g2⟩
theorem NwI.upto (hE : En w p W H tl f) (h : NwI w Y p c s ep gp wb eb h6 W H tl f B pre) (hb : Below Y.heap.size Y Y') (hwB : w.heap.size ≤ B) : NwI w Y' p c s ep gp wb eb h6 W H tl f B pre := h.turned (S := NoB) hE (Turns.of_below hb) (fun _ q => q.elim) hwB (fun _ _ q => q.elim)
end
theorem allK_len {W H : Int} (hW : 1 ≤ W ∧ W ≤ 128) (hH : 1 ≤ H ∧ H ≤ 128) : (allK W H).length ≤ 256 := by
  unfold allK allC
  split
  · rw [upto_length]
    have := Nat.mul_le_mul (show (clN H).toNat ≤ 16 by unfold clN; omega) (show (clN W).toNat ≤ 16 by unfold clN; omega)
    omega
  · simp
def kl (a m : Nat) : List (Int × Int) := (List.range m).map (fun i => (((i % a : Nat) : Int), ((i / a : Nat) : Int)))
theorem allK_kl {wd ht : Nat} (hd : (1 ≤ wd ∧ wd ≤ 128) ∧ 1 ≤ ht ∧ ht ≤ 128) : (allK (wd : Nat) (ht : Nat)).map (·.1) = kl ((wd - 1) / 8 + 1) (((ht - 1) / 8 + 1) * ((wd - 1) / 8 + 1)) := by
  have e1 : (clN (wd : Nat)).toNat = (wd - 1) / 8 + 1 := by unfold clN; omega
  have e2 : (clN (ht : Nat)).toNat = (ht - 1) / 8 + 1 := by unfold clN; omega
  have hm : may 0 0 (clN (wd : Nat)) (clN (ht : Nat)) = true := (may_iff _ _ _ _).2 (by unfold clN; omega)
  unfold allK allC
  rw [if_pos hm, e1, e2, upto, List.map_map, kl]
  refine List.map_congr_left (fun i hi => ?_)
  have hlt : i < ((ht - 1) / 8 + 1) * ((wd - 1) / 8 + 1) := List.mem_range.1 hi
  have hb : ((ht - 1) / 8 + 1) * ((wd - 1) / 8 + 1) ≤ 16 * 16 := Nat.mul_le_mul (by omega) (by omega)
  have h1 : i % ((wd - 1) / 8 + 1) ≤ i := Nat.mod_le _ _
  have h2 : i / ((wd - 1) / 8 + 1) ≤ i := Nat.div_le_self _ _
  show (mkC (cellAt 0 0 ((wd - 1) / 8 + 1) i)).1 = _
  have hc : cellAt 0 0 ((wd - 1) / 8 + 1) i = (((i % ((wd - 1) / 8 + 1) : Nat) : Int), ((i / ((wd - 1) / 8 + 1) : Nat) : Int)) := by unfold cellAt; simp
  rw [hc]
  obtain ⟨q, hq⟩ : ∃ q, i / ((wd - 1) / 8 + 1) = q := ⟨_, rfl⟩
  obtain ⟨m, hm'⟩ : ∃ m, i % ((wd - 1) / 8 + 1) = m := ⟨_, rfl⟩
  rw [hq] at h2 ⊢
  rw [hm'] at h1 ⊢
  exact mkC_is ⟨w64_of (by simp only; omega), w64_of (by simp only; omega)⟩
theorem mem_allK {W H : Int} (hW : 1 ≤ W ∧ W ≤ 128) (hH : 1 ≤ H ∧ H ≤ 128) (k : Int × Int) : k ∈ (allK W H).map (·.1) ↔ rB W H k.1 k.2 = true := by
  obtain ⟨wd, hwd⟩ : ∃ wd : Nat, W = wd := ⟨W.toNat, by omega⟩
  obtain ⟨ht, hht⟩ : ∃ ht : Nat, H = ht := ⟨H.toNat, by omega⟩
  subst hwd hht
  rw [rB_iff hW hH, allK_kl (by omega)]
  unfold kl
  rw [List.mem_map]
  constructor
  · rintro ⟨i, hi, rfl⟩
    rw [List.mem_range] at hi
    have h1 : i % ((wd - 1) / 8 + 1) < (wd - 1) / 8 + 1 := Nat.mod_lt _ (by omega)
    have h2 : i / ((wd - 1) / 8 + 1) < (ht - 1) / 8 + 1 := (Nat.div_lt_iff_lt_mul (by omega)).2 hi
    obtain ⟨q, hq⟩ : ∃ q, i / ((wd - 1) / 8 + 1) = q := ⟨_, rfl⟩
    obtain ⟨m, hm'⟩ : ∃ m, i % ((wd - 1) / 8 + 1) = m := ⟨_, rfl⟩
    rw [hq] at h2 ⊢
    rw [hm'] at h1 ⊢
    clear hi hq hm'
    simp only
    omega
  · rintro ⟨h1, h2⟩
    obtain ⟨x, y⟩ := k
    simp only at h1 h2
    obtain ⟨a, rfl⟩ : ∃ a : Nat, x = a := ⟨x.toNat, by omega⟩
    obtain ⟨b, rfl⟩ : ∃ b : Nat, y = b := ⟨y.toNat, by omega⟩
    have ha : a < (wd - 1) / 8 + 1 := by omega
    have hb : b < (ht - 1) / 8 + 1 := by omega
    refine ⟨b * ((wd - 1) / 8 + 1) + a, ?_, ?_⟩
    · rw [List.mem_range, Nat.mul_comm ((ht - 1) / 8 + 1)]
      exact idx_lt ha hb
    · rw [(idx_mod ha).1, (idx_mod ha).2]
end Go.Proofs.YthiafmlgialbnaaGreatDoor
set_option linter.unusedSimpArgs false
namespace Go.Proofs.YthiafmlgialbnaaGreatDoor
open Go.RowKit Go.Shelf
set_option linter.unusedVariables false
attribute [local go_sem] Oper.semAt_some
theorem MapS.empty {z : Value} (hz : IsS z) {w : World} {b : Nat} (h : w.heap[b]? = some (.map #[] 0)) : MapS z w b [] (fun _ _ => z) := by
  obtain ⟨es, clock, h1, hF, hs, hD⟩ := World.ownsMap_made (H := Unit) w Tryz.prog 47 slElem
  rw [heap_alloc_new] at h1
  have h2 := Option.some.inj h1
  cases h2
  exact ⟨.map [], ⟨_, _, h, hF, hs, hD⟩, rfl, List.nodup_nil, fun q h => absurd h List.not_mem_nil, hz, fun _ _ => hz, fun _ _ _ => rfl, fun x y _ _ => ⟨rfl, rfl⟩⟩
/-- What New leaves. -/
def GNew (w w' : World) (gp p : Nat) (c s ep : Int) (wb eb : Nat) (W H : Int) (tl : List Nat) (f : Int → Int → Option Int) : Prop :=
  GOk w' gp p c s ep wb eb W H tl f ∧ Below w.heap.size w w' ∧ w.heap.size ≤ gp ∧ w.heap.size ≤ wb ∧ w.heap.size ≤ eb
theorem run_build67 {ev : Operand → Value} {o : Oper} {w : World} {x0 x1 x2 x3 x4 : Operand} {p wb eb : Nat} {c s ep : Int} (ho : o.op = .build 67 #[(0, x0), (1, x1), (2, x2), (3, x3), (4, x4)]) (h0 : ev x0 = ptr p) (h1 : ev x1 = shv c s) (h2 : ev x2 = .int .i64 ep) (h3 : ev x3 = .map (some wb)) (h4 : ev x4 = .map (some eb)) :
    (execOp ev o).run Tryz.prog w = .ok (.value (.agg #[ptr p, .int .i64 c, .int .i64 s, .int .i64 ep, .map (some wb), .map (some eb)])) w := by
  unfold execOp
  simp only [ho, h0, h1, h2, h3, h4]
  go_simp
set_option maxRecDepth 100000 in
set_option maxHeartbeats 16000000 in
theorem gnew_good {w : World} {p : Nat} {c s ep : Int} {W H : Int} {tl : List Nat} {f : Int → Int → Option Int} (hE : En w p W H tl f) (hS : ∀ u v, stB W H tl f c s u v = true → (0 ≤ u ∧ u < W) ∧ 0 ≤ v ∧ v < H) (hsh : shB c s = true)
    (hEp : ∀ wx, Below w.heap.size w wx → Calls Tryz.prog 18 #[ptr p] wx fun e w' => e = .returned (.int .i64 ep) ∧ w' = wx) :
    Calls Tryz.prog 10 #[ptr p, shv c s] w fun e w' => ∃ gp wb eb, e = .returned (.tuple #[ptr gp, .int .i64 0]) ∧ GNew w w' gp p c s ep wb eb W H tl f := by
  obtain ⟨hW, hH⟩ := hE.1.sides
  refine (callsIn_wide (n := 10)).1 ?_
  refine callsIn_of_wp_marks Tryz.func10 rfl trivial ?_ rfl
  simp only [Tryz.ntmps10, List.size_toArray, List.length_cons, List.length_nil, Nat.reduceAdd, Nat.reduceSub, Array.replicate_succ, Array.replicate_zero, List.push_toArray, List.append_toArray, List.nil_append, List.cons_append]
  obtain ⟨X, hX⟩ : ∃ X, w.alloc (.cells #[.int .i64 c, .int .i64 s] 27) = X := ⟨_, rfl⟩
  have BX : Below w.heap.size w X := hX ▸ box1 _ _
  have TX : Two X w.heap.size c s := by rw [← hX]; exact Two.newAt rfl
  have HAl := hide (all_is (hE.1.kept BX))
  have hmy : may 0 0 W H = true := (may_iff _ _ _ _).2 (by omega)
  have HMy : Hid (∀ wx, Calls Tryz.prog 25 #[rct 0 0 W H] wx fun e w' => e = .returned (.bool true) ∧ Below wx.heap.size wx w') := hide fun wx => mayr_is wx hmy
  have HSh : Hid (∀ wx, Calls Tryz.prog 27 #[shv c s] wx fun e w' => e = .returned (.bool true) ∧ Below wx.heap.size wx w') := hide fun wx => shmay_is wx hsh
  have HEp : Hid (∀ wx, Below X.heap.size X wx → Calls Tryz.prog 18 #[ptr p] wx fun e w' => e = .returned (.int .i64 ep) ∧ w' = wx) := hide fun wx q => hEp wx (bt BX q)
  have HK : Hid (∀ wx, Below X.heap.size X wx → wx.cell? ⟨w.heap.size, 0, none⟩ = some (.int .i64 c) ∧ wx.cell? ⟨w.heap.size, 1, none⟩ = some (.int .i64 s)) := hide fun wx q => (TX.kept q).1
  have HX := hide hX
  have HB := hide BX
  have HE := hide (And.intro hE (And.intro hS (And.intro hW hH)))
  clear hX BX TX hE hS hsh hEp hW hH hmy
  gi_wp2_with (rw [HX.out])
  refine ⟨trivial, ?_⟩
  refine (callsIn_wide.2 HAl.out).mono ?_
  rintro e w1 ⟨rfl, hb1⟩
  have Hb1 := hide hb1
  clear hb1 HAl
  gi_wp2_with fail
  refine ⟨trivial, ?_⟩
  refine (callsIn_wide.2 (HMy.out w1)).mono ?_
  rintro e w2 ⟨rfl, hb2⟩
  have Hb2 := hide (bt Hb1.out hb2)
  obtain ⟨c0, c1⟩ := HK.out w2 Hb2.out
  clear hb2 Hb1
  gi_wp2_with fail
  refine ⟨trivial, ?_⟩
  refine (callsIn_wide.2 (HSh.out w2)).mono ?_
  rintro e w3 ⟨rfl, hb3⟩
  have Hb3 := hide (bt Hb2.out hb3)
  clear hb3 Hb2 c0 c1 HMy HSh
  gi_wp2_with fail
  have hd : Below w3.heap.size w3 w3.drew := ⟨rfl, rfl, rfl, Nat.le_refl _, fun _ _ => rfl⟩
  have b0 : Below X.heap.size X w3.drew := bt Hb3.out hd
  have HS := HK.out w3.drew b0
  refine wpIn_only ?_
  refine wpIn_region_zW (fun wx : World => wx.cell? ⟨w.heap.size, 0, none⟩ = some (.int .i64 c) ∧ wx.cell? ⟨w.heap.size, 1, none⟩ = some (.int .i64 s)) [9] (by kernel_rfl) ?_
  generalize w3.drew = V0 at b0 HS ⊢
  clear hd Hb3
  refine anyZ_take 0 8 (v := ptr p) rfl (by kernel_rfl) (fun _ _ _ h => h.elim) (Or.inl ⟨by rfl, fun wx hx => by obtain ⟨x0, x1⟩ := hx; clear HS; go_simp⟩) HS ?_
  try simp only [Act.put, List.getElem_toArray, List.getElem_cons_zero, List.getElem_cons_succ, List.setIfInBounds_toArray, List.set_cons_zero, List.set_cons_succ]
  refine anyZ_take 1 8 (v := shv c s) rfl (by kernel_rfl) (fun _ _ _ h => h.elim) (Or.inl ⟨by rfl, fun wx hx => by obtain ⟨x0, x1⟩ := hx; clear HS; go_simp⟩) HS ?_
  try simp only [Act.put, List.getElem_toArray, List.getElem_cons_zero, List.getElem_cons_succ, List.setIfInBounds_toArray, List.set_cons_zero, List.set_cons_succ]
  refine anyZ_take 2 8 (v := ptr p) rfl (by kernel_rfl) (fun _ _ _ h => h.elim) (Or.inl ⟨by rfl, fun wx hx => by obtain ⟨x0, x1⟩ := hx; clear HS; go_simp⟩) HS ?_
  try simp only [Act.put, List.getElem_toArray, List.getElem_cons_zero, List.getElem_cons_succ, List.setIfInBounds_toArray, List.set_cons_zero, List.set_cons_succ]
  refine by_way5 (F := fun V wb eb gb h8 => Below X.heap.size X V ∧ (V.heap[wb]? = some (.map #[] 0) ∧ V.heap[eb]? = some (.map #[] 0) ∧ wb ≠ eb) ∧ V.heap[gb]? = some (.cells #[ptr p, .int .i64 c, .int .i64 s, .int .i64 ep, .map (some wb), .map (some eb)] 67 (0, 0)) ∧ (V.heap[h8]? = some (.cells #[.pointer none] 34 (0, 0)) ∧ X.heap.size ≤ h8) ∧ X.heap.size ≤ wb ∧ X.heap.size ≤ eb ∧ X.heap.size ≤ gb) (G := ?G) ?ways ?then2
  case ways =>
    intro HG
    refine anyZ_ready (rs := [3, 4, 5, 8]) (by kernel_rfl) (by simp) ?_
    refine readyZ.call rfl rfl (run_c18 (by rfl) (by rfl) (by simp only [List.map_toArray, List.map_cons, List.map_nil]; rfl)) (HEp.out V0 b0) ?_ ?_
    · rintro e V' ⟨rfl, hv⟩
      have hv' := hv.symm
      subst hv'
      refine ⟨_, rfl, fun _ => HK.out _ b0, ?_⟩
      try simp only [Act.put, List.getElem_toArray, List.getElem_cons_zero, List.getElem_cons_succ, List.setIfInBounds_toArray, List.set_cons_zero, List.set_cons_succ]
      refine anyZ_ready (rs := [4, 5, 8]) (by kernel_rfl) (by simp) ?_
      obtain ⟨V1, q1, hV1, hq1, f1, up1, bl1⟩ := alloc_let V0 (.map #[] 0)
      refine readyZ.cons rfl rfl (run_make (by rfl)) (fun _ => by rw [hV1]; exact HK.out _ (bt b0 bl1)) ?_ ?_
      · rw [hV1, hq1]
        have hB1 := bt b0 bl1
        have lo1 : X.heap.size ≤ q1 := hq1 ▸ (b0).size
        try simp only [Act.put, List.getElem_toArray, List.getElem_cons_zero, List.getElem_cons_succ, List.setIfInBounds_toArray, List.set_cons_zero, List.set_cons_succ]
        refine anyZ_ready (rs := [5, 8]) (by kernel_rfl) (by simp) ?_
        obtain ⟨V2, q2, hV2, hq2, f2, up2, bl2⟩ := alloc_let V1 (.map #[] 0)
        refine readyZ.cons rfl rfl (run_make (by rfl)) (fun _ => by rw [hV2]; exact HK.out _ (bt hB1 bl2)) ?_ ?_
        · rw [hV2, hq2]
          have hB2 := bt hB1 bl2
          have lo2 : X.heap.size ≤ q2 := hq2 ▸ (hB1).size
          try simp only [Act.put, List.getElem_toArray, List.getElem_cons_zero, List.getElem_cons_succ, List.setIfInBounds_toArray, List.set_cons_zero, List.set_cons_succ]
          have HSV2 := HK.out V2 hB2
          refine anyZ_take 6 8 (v := .agg #[ptr p, .int .i64 c, .int .i64 s, .int .i64 ep, .map (some q1), .map (some q2)]) rfl (by kernel_rfl) (fun _ _ _ h => h.elim) (Or.inl ⟨by rfl, fun wx hx => run_build67 (by rfl) (by rfl) (by rfl) (by rfl) (by rfl) (by rfl)⟩) HSV2 ?_
          try simp only [Act.put, List.getElem_toArray, List.getElem_cons_zero, List.getElem_cons_succ, List.setIfInBounds_toArray, List.set_cons_zero, List.set_cons_succ]
          refine anyZ_ready (rs := [7, 8]) (by kernel_rfl) (by simp) ?_
          obtain ⟨V3, q3, hV3, hq3, f3, up3, bl3⟩ := alloc_let V2 (.cells #[ptr p, .int .i64 c, .int .i64 s, .int .i64 ep, .map (some q1), .map (some q2)] 67)
          refine readyZ.cons rfl rfl (run_box67 (by rfl) (by rfl)) (fun _ => by rw [hV3]; exact HK.out _ (bt hB2 bl3)) ?_ ?_
          · rw [hV3, hq3]
            have hB3 := bt hB2 bl3
            have lo3 : X.heap.size ≤ q3 := hq3 ▸ (hB2).size
            try simp only [Act.put, List.getElem_toArray, List.getElem_cons_zero, List.getElem_cons_succ, List.setIfInBounds_toArray, List.set_cons_zero, List.set_cons_succ]
            refine anyZ_ready (rs := [8]) (by kernel_rfl) (by simp) ?_
            obtain ⟨V4, q4, hV4, hq4, f4, up4, bl4⟩ := alloc_let V3 (.cells #[.pointer none] 34)
            refine readyZ.cons rfl rfl (run_alloc34 (by rfl)) (fun _ => by rw [hV4]; exact HK.out _ (bt hB3 bl4)) ?_ readyZ.nil
            · rw [hV4, hq4]
              have hB4 := bt hB3 bl4
              have lo4 : X.heap.size ≤ q4 := hq4 ▸ (hB3).size
              try simp only [Act.put, List.getElem_toArray, List.getElem_cons_zero, List.getElem_cons_succ, List.setIfInBounds_toArray, List.set_cons_zero, List.set_cons_succ]
              exact HG V4 q1 q2 q3 q4 ⟨hB4, ⟨(up4 _ _ (up3 _ _ (up2 _ _ f1).1).1).1, (up4 _ _ (up3 _ _ f2).1).1, (up2 _ _ f1).2⟩, (up4 _ _ f3).1, ⟨f4, lo4⟩, lo1, lo2, lo3⟩
          obtain ⟨V5, q5, hV5, hq5, f5, up5, bl5⟩ := alloc_let V2 (.cells #[.pointer none] 34)
          refine readyZ.cons rfl rfl (run_alloc34 (by rfl)) (fun _ => by rw [hV5]; exact HK.out _ (bt hB2 bl5)) ?_ readyZ.nil
          · rw [hV5, hq5]
            have hB5 := bt hB2 bl5
            have lo5 : X.heap.size ≤ q5 := hq5 ▸ (hB2).size
            try simp only [Act.put, List.getElem_toArray, List.getElem_cons_zero, List.getElem_cons_succ, List.setIfInBounds_toArray, List.set_cons_zero, List.set_cons_succ]
            refine anyZ_ready (rs := [7]) (by kernel_rfl) (by simp) ?_
            obtain ⟨V6, q6, hV6, hq6, f6, up6, bl6⟩ := alloc_let V5 (.cells #[ptr p, .int .i64 c, .int .i64 s, .int .i64 ep, .map (some q1), .map (some q2)] 67)
            refine readyZ.cons rfl rfl (run_box67 (by rfl) (by rfl)) (fun _ => by rw [hV6]; exact HK.out _ (bt hB5 bl6)) ?_ readyZ.nil
            · rw [hV6, hq6]
              have hB6 := bt hB5 bl6
              have lo6 : X.heap.size ≤ q6 := hq6 ▸ (hB5).size
              try simp only [Act.put, List.getElem_toArray, List.getElem_cons_zero, List.getElem_cons_succ, List.setIfInBounds_toArray, List.set_cons_zero, List.set_cons_succ]
              exact HG V6 q1 q2 q6 q5 ⟨hB6, ⟨(up6 _ _ (up5 _ _ (up2 _ _ f1).1).1).1, (up6 _ _ (up5 _ _ f2).1).1, (up2 _ _ f1).2⟩, f6, ⟨(up6 _ _ f5).1, lo5⟩, lo1, lo2, lo6⟩
        obtain ⟨V7, q7, hV7, hq7, f7, up7, bl7⟩ := alloc_let V1 (.cells #[.pointer none] 34)
        refine readyZ.cons rfl rfl (run_alloc34 (by rfl)) (fun _ => by rw [hV7]; exact HK.out _ (bt hB1 bl7)) ?_ readyZ.nil
        · rw [hV7, hq7]
          have hB7 := bt hB1 bl7
          have lo7 : X.heap.size ≤ q7 := hq7 ▸ (hB1).size
          try simp only [Act.put, List.getElem_toArray, List.getElem_cons_zero, List.getElem_cons_succ, List.setIfInBounds_toArray, List.set_cons_zero, List.set_cons_succ]
          refine anyZ_ready (rs := [5]) (by kernel_rfl) (by simp) ?_
          obtain ⟨V8, q8, hV8, hq8, f8, up8, bl8⟩ := alloc_let V7 (.map #[] 0)
          refine readyZ.cons rfl rfl (run_make (by rfl)) (fun _ => by rw [hV8]; exact HK.out _ (bt hB7 bl8)) ?_ readyZ.nil
          · rw [hV8, hq8]
            have hB8 := bt hB7 bl8
            have lo8 : X.heap.size ≤ q8 := hq8 ▸ (hB7).size
            try simp only [Act.put, List.getElem_toArray, List.getElem_cons_zero, List.getElem_cons_succ, List.setIfInBounds_toArray, List.set_cons_zero, List.set_cons_succ]
            have HSV8 := HK.out V8 hB8
            refine anyZ_take 6 8 (v := .agg #[ptr p, .int .i64 c, .int .i64 s, .int .i64 ep, .map (some q1), .map (some q8)]) rfl (by kernel_rfl) (fun _ _ _ h => h.elim) (Or.inl ⟨by rfl, fun wx hx => run_build67 (by rfl) (by rfl) (by rfl) (by rfl) (by rfl) (by rfl)⟩) HSV8 ?_
            try simp only [Act.put, List.getElem_toArray, List.getElem_cons_zero, List.getElem_cons_succ, List.setIfInBounds_toArray, List.set_cons_zero, List.set_cons_succ]
            refine anyZ_ready (rs := [7]) (by kernel_rfl) (by simp) ?_
            obtain ⟨V9, q9, hV9, hq9, f9, up9, bl9⟩ := alloc_let V8 (.cells #[ptr p, .int .i64 c, .int .i64 s, .int .i64 ep, .map (some q1), .map (some q8)] 67)
            refine readyZ.cons rfl rfl (run_box67 (by rfl) (by rfl)) (fun _ => by rw [hV9]; exact HK.out _ (bt hB8 bl9)) ?_ readyZ.nil
            · rw [hV9, hq9]
              have hB9 := bt hB8 bl9
              have lo9 : X.heap.size ≤ q9 := hq9 ▸ (hB8).size
              try simp only [Act.put, List.getElem_toArray, List.getElem_cons_zero, List.getElem_cons_succ, List.setIfInBounds_toArray, List.set_cons_zero, List.set_cons_succ]
              exact HG V9 q1 q8 q9 q7 ⟨hB9, ⟨(up9 _ _ (up8 _ _ (up7 _ _ f1).1).1).1, (up9 _ _ f8).1, (up8 _ _ (up7 _ _ f1).1).2⟩, f9, ⟨(up9 _ _ (up8 _ _ f7).1).1, lo7⟩, lo1, lo8, lo9⟩
      obtain ⟨V10, q10, hV10, hq10, f10, up10, bl10⟩ := alloc_let V0 (.map #[] 0)
      refine readyZ.cons rfl rfl (run_make (by rfl)) (fun _ => by rw [hV10]; exact HK.out _ (bt b0 bl10)) ?_ ?_
      · rw [hV10, hq10]
        have hB10 := bt b0 bl10
        have lo10 : X.heap.size ≤ q10 := hq10 ▸ (b0).size
        try simp only [Act.put, List.getElem_toArray, List.getElem_cons_zero, List.getElem_cons_succ, List.setIfInBounds_toArray, List.set_cons_zero, List.set_cons_succ]
        refine anyZ_ready (rs := [4, 8]) (by kernel_rfl) (by simp) ?_
        obtain ⟨V11, q11, hV11, hq11, f11, up11, bl11⟩ := alloc_let V10 (.map #[] 0)
        refine readyZ.cons rfl rfl (run_make (by rfl)) (fun _ => by rw [hV11]; exact HK.out _ (bt hB10 bl11)) ?_ ?_
        · rw [hV11, hq11]
          have hB11 := bt hB10 bl11
          have lo11 : X.heap.size ≤ q11 := hq11 ▸ (hB10).size
          try simp only [Act.put, List.getElem_toArray, List.getElem_cons_zero, List.getElem_cons_succ, List.setIfInBounds_toArray, List.set_cons_zero, List.set_cons_succ]
          have HSV11 := HK.out V11 hB11
          refine anyZ_take 6 8 (v := .agg #[ptr p, .int .i64 c, .int .i64 s, .int .i64 ep, .map (some q11), .map (some q10)]) rfl (by kernel_rfl) (fun _ _ _ h => h.elim) (Or.inl ⟨by rfl, fun wx hx => run_build67 (by rfl) (by rfl) (by rfl) (by rfl) (by rfl) (by rfl)⟩) HSV11 ?_
          try simp only [Act.put, List.getElem_toArray, List.getElem_cons_zero, List.getElem_cons_succ, List.setIfInBounds_toArray, List.set_cons_zero, List.set_cons_succ]
          refine anyZ_ready (rs := [7, 8]) (by kernel_rfl) (by simp) ?_
          obtain ⟨V12, q12, hV12, hq12, f12, up12, bl12⟩ := alloc_let V11 (.cells #[ptr p, .int .i64 c, .int .i64 s, .int .i64 ep, .map (some q11), .map (some q10)] 67)
          refine readyZ.cons rfl rfl (run_box67 (by rfl) (by rfl)) (fun _ => by rw [hV12]; exact HK.out _ (bt hB11 bl12)) ?_ ?_
          · rw [hV12, hq12]
            have hB12 := bt hB11 bl12
            have lo12 : X.heap.size ≤ q12 := hq12 ▸ (hB11).size
            try simp only [Act.put, List.getElem_toArray, List.getElem_cons_zero, List.getElem_cons_succ, List.setIfInBounds_toArray, List.set_cons_zero, List.set_cons_succ]
            refine anyZ_ready (rs := [8]) (by kernel_rfl) (by simp) ?_
            obtain ⟨V13, q13, hV13, hq13, f13, up13, bl13⟩ := alloc_let V12 (.cells #[.pointer none] 34)
            refine readyZ.cons rfl rfl (run_alloc34 (by rfl)) (fun _ => by rw [hV13]; exact HK.out _ (bt hB12 bl13)) ?_ readyZ.nil
            · rw [hV13, hq13]
              have hB13 := bt hB12 bl13
              have lo13 : X.heap.size ≤ q13 := hq13 ▸ (hB12).size
              try simp only [Act.put, List.getElem_toArray, List.getElem_cons_zero, List.getElem_cons_succ, List.setIfInBounds_toArray, List.set_cons_zero, List.set_cons_succ]
              exact HG V13 q11 q10 q12 q13 ⟨hB13, ⟨(up13 _ _ (up12 _ _ f11).1).1, (up13 _ _ (up12 _ _ (up11 _ _ f10).1).1).1, (fun e => (up11 _ _ f10).2 e.symm)⟩, (up13 _ _ f12).1, ⟨f13, lo13⟩, lo11, lo10, lo12⟩
          obtain ⟨V14, q14, hV14, hq14, f14, up14, bl14⟩ := alloc_let V11 (.cells #[.pointer none] 34)
          refine readyZ.cons rfl rfl (run_alloc34 (by rfl)) (fun _ => by rw [hV14]; exact HK.out _ (bt hB11 bl14)) ?_ readyZ.nil
          · rw [hV14, hq14]
            have hB14 := bt hB11 bl14
            have lo14 : X.heap.size ≤ q14 := hq14 ▸ (hB11).size
            try simp only [Act.put, List.getElem_toArray, List.getElem_cons_zero, List.getElem_cons_succ, List.setIfInBounds_toArray, List.set_cons_zero, List.set_cons_succ]
            refine anyZ_ready (rs := [7]) (by kernel_rfl) (by simp) ?_
            obtain ⟨V15, q15, hV15, hq15, f15, up15, bl15⟩ := alloc_let V14 (.cells #[ptr p, .int .i64 c, .int .i64 s, .int .i64 ep, .map (some q11), .map (some q10)] 67)
            refine readyZ.cons rfl rfl (run_box67 (by rfl) (by rfl)) (fun _ => by rw [hV15]; exact HK.out _ (bt hB14 bl15)) ?_ readyZ.nil
            · rw [hV15, hq15]
              have hB15 := bt hB14 bl15
              have lo15 : X.heap.size ≤ q15 := hq15 ▸ (hB14).size
              try simp only [Act.put, List.getElem_toArray, List.getElem_cons_zero, List.getElem_cons_succ, List.setIfInBounds_toArray, List.set_cons_zero, List.set_cons_succ]
              exact HG V15 q11 q10 q15 q14 ⟨hB15, ⟨(up15 _ _ (up14 _ _ f11).1).1, (up15 _ _ (up14 _ _ (up11 _ _ f10).1).1).1, (fun e => (up11 _ _ f10).2 e.symm)⟩, f15, ⟨(up15 _ _ f14).1, lo14⟩, lo11, lo10, lo15⟩
        obtain ⟨V16, q16, hV16, hq16, f16, up16, bl16⟩ := alloc_let V10 (.cells #[.pointer none] 34)
        refine readyZ.cons rfl rfl (run_alloc34 (by rfl)) (fun _ => by rw [hV16]; exact HK.out _ (bt hB10 bl16)) ?_ readyZ.nil
        · rw [hV16, hq16]
          have hB16 := bt hB10 bl16
          have lo16 : X.heap.size ≤ q16 := hq16 ▸ (hB10).size
          try simp only [Act.put, List.getElem_toArray, List.getElem_cons_zero, List.getElem_cons_succ, List.setIfInBounds_toArray, List.set_cons_zero, List.set_cons_succ]
          refine anyZ_ready (rs := [4]) (by kernel_rfl) (by simp) ?_
          obtain ⟨V17, q17, hV17, hq17, f17, up17, bl17⟩ := alloc_let V16 (.map #[] 0)
          refine readyZ.cons rfl rfl (run_make (by rfl)) (fun _ => by rw [hV17]; exact HK.out _ (bt hB16 bl17)) ?_ readyZ.nil
          · rw [hV17, hq17]
            have hB17 := bt hB16 bl17
            have lo17 : X.heap.size ≤ q17 := hq17 ▸ (hB16).size
            try simp only [Act.put, List.getElem_toArray, List.getElem_cons_zero, List.getElem_cons_succ, List.setIfInBounds_toArray, List.set_cons_zero, List.set_cons_succ]
            have HSV17 := HK.out V17 hB17
            refine anyZ_take 6 8 (v := .agg #[ptr p, .int .i64 c, .int .i64 s, .int .i64 ep, .map (some q17), .map (some q10)]) rfl (by kernel_rfl) (fun _ _ _ h => h.elim) (Or.inl ⟨by rfl, fun wx hx => run_build67 (by rfl) (by rfl) (by rfl) (by rfl) (by rfl) (by rfl)⟩) HSV17 ?_
            try simp only [Act.put, List.getElem_toArray, List.getElem_cons_zero, List.getElem_cons_succ, List.setIfInBounds_toArray, List.set_cons_zero, List.set_cons_succ]
            refine anyZ_ready (rs := [7]) (by kernel_rfl) (by simp) ?_
            obtain ⟨V18, q18, hV18, hq18, f18, up18, bl18⟩ := alloc_let V17 (.cells #[ptr p, .int .i64 c, .int .i64 s, .int .i64 ep, .map (some q17), .map (some q10)] 67)
            refine readyZ.cons rfl rfl (run_box67 (by rfl) (by rfl)) (fun _ => by rw [hV18]; exact HK.out _ (bt hB17 bl18)) ?_ readyZ.nil
            · rw [hV18, hq18]
              have hB18 := bt hB17 bl18
              have lo18 : X.heap.size ≤ q18 := hq18 ▸ (hB17).size
              try simp only [Act.put, List.getElem_toArray, List.getElem_cons_zero, List.getElem_cons_succ, List.setIfInBounds_toArray, List.set_cons_zero, List.set_cons_succ]
              exact HG V18 q17 q10 q18 q16 ⟨hB18, ⟨(up18 _ _ f17).1, (up18 _ _ (up17 _ _ (up16 _ _ f10).1).1).1, (fun e => (up17 _ _ (up16 _ _ f10).1).2 e.symm)⟩, f18, ⟨(up18 _ _ (up17 _ _ f16).1).1, lo16⟩, lo17, lo10, lo18⟩
      obtain ⟨V19, q19, hV19, hq19, f19, up19, bl19⟩ := alloc_let V0 (.cells #[.pointer none] 34)
      refine readyZ.cons rfl rfl (run_alloc34 (by rfl)) (fun _ => by rw [hV19]; exact HK.out _ (bt b0 bl19)) ?_ readyZ.nil
      · rw [hV19, hq19]
        have hB19 := bt b0 bl19
        have lo19 : X.heap.size ≤ q19 := hq19 ▸ (b0).size
        try simp only [Act.put, List.getElem_toArray, List.getElem_cons_zero, List.getElem_cons_succ, List.setIfInBounds_toArray, List.set_cons_zero, List.set_cons_succ]
        refine anyZ_ready (rs := [4, 5]) (by kernel_rfl) (by simp) ?_
        obtain ⟨V20, q20, hV20, hq20, f20, up20, bl20⟩ := alloc_let V19 (.map #[] 0)
        refine readyZ.cons rfl rfl (run_make (by rfl)) (fun _ => by rw [hV20]; exact HK.out _ (bt hB19 bl20)) ?_ ?_
        · rw [hV20, hq20]
          have hB20 := bt hB19 bl20
          have lo20 : X.heap.size ≤ q20 := hq20 ▸ (hB19).size
          try simp only [Act.put, List.getElem_toArray, List.getElem_cons_zero, List.getElem_cons_succ, List.setIfInBounds_toArray, List.set_cons_zero, List.set_cons_succ]
          refine anyZ_ready (rs := [5]) (by kernel_rfl) (by simp) ?_
          obtain ⟨V21, q21, hV21, hq21, f21, up21, bl21⟩ := alloc_let V20 (.map #[] 0)
          refine readyZ.cons rfl rfl (run_make (by rfl)) (fun _ => by rw [hV21]; exact HK.out _ (bt hB20 bl21)) ?_ readyZ.nil
          · rw [hV21, hq21]
            have hB21 := bt hB20 bl21
            have lo21 : X.heap.size ≤ q21 := hq21 ▸ (hB20).size
            try simp only [Act.put, List.getElem_toArray, List.getElem_cons_zero, List.getElem_cons_succ, List.setIfInBounds_toArray, List.set_cons_zero, List.set_cons_succ]
            have HSV21 := HK.out V21 hB21
            refine anyZ_take 6 8 (v := .agg #[ptr p, .int .i64 c, .int .i64 s, .int .i64 ep, .map (some q20), .map (some q21)]) rfl (by kernel_rfl) (fun _ _ _ h => h.elim) (Or.inl ⟨by rfl, fun wx hx => run_build67 (by rfl) (by rfl) (by rfl) (by rfl) (by rfl) (by rfl)⟩) HSV21 ?_
            try simp only [Act.put, List.getElem_toArray, List.getElem_cons_zero, List.getElem_cons_succ, List.setIfInBounds_toArray, List.set_cons_zero, List.set_cons_succ]
            refine anyZ_ready (rs := [7]) (by kernel_rfl) (by simp) ?_
            obtain ⟨V22, q22, hV22, hq22, f22, up22, bl22⟩ := alloc_let V21 (.cells #[ptr p, .int .i64 c, .int .i64 s, .int .i64 ep, .map (some q20), .map (some q21)] 67)
            refine readyZ.cons rfl rfl (run_box67 (by rfl) (by rfl)) (fun _ => by rw [hV22]; exact HK.out _ (bt hB21 bl22)) ?_ readyZ.nil
            · rw [hV22, hq22]
              have hB22 := bt hB21 bl22
              have lo22 : X.heap.size ≤ q22 := hq22 ▸ (hB21).size
              try simp only [Act.put, List.getElem_toArray, List.getElem_cons_zero, List.getElem_cons_succ, List.setIfInBounds_toArray, List.set_cons_zero, List.set_cons_succ]
              exact HG V22 q20 q21 q22 q19 ⟨hB22, ⟨(up22 _ _ (up21 _ _ f20).1).1, (up22 _ _ f21).1, (up21 _ _ f20).2⟩, f22, ⟨(up22 _ _ (up21 _ _ (up20 _ _ f19).1).1).1, lo19⟩, lo20, lo21, lo22⟩
        obtain ⟨V23, q23, hV23, hq23, f23, up23, bl23⟩ := alloc_let V19 (.map #[] 0)
        refine readyZ.cons rfl rfl (run_make (by rfl)) (fun _ => by rw [hV23]; exact HK.out _ (bt hB19 bl23)) ?_ readyZ.nil
        · rw [hV23, hq23]
          have hB23 := bt hB19 bl23
          have lo23 : X.heap.size ≤ q23 := hq23 ▸ (hB19).size
          try simp only [Act.put, List.getElem_toArray, List.getElem_cons_zero, List.getElem_cons_succ, List.setIfInBounds_toArray, List.set_cons_zero, List.set_cons_succ]
          refine anyZ_ready (rs := [4]) (by kernel_rfl) (by simp) ?_
          obtain ⟨V24, q24, hV24, hq24, f24, up24, bl24⟩ := alloc_let V23 (.map #[] 0)
          refine readyZ.cons rfl rfl (run_make (by rfl)) (fun _ => by rw [hV24]; exact HK.out _ (bt hB23 bl24)) ?_ readyZ.nil
          · rw [hV24, hq24]
            have hB24 := bt hB23 bl24
            have lo24 : X.heap.size ≤ q24 := hq24 ▸ (hB23).size
            try simp only [Act.put, List.getElem_toArray, List.getElem_cons_zero, List.getElem_cons_succ, List.setIfInBounds_toArray, List.set_cons_zero, List.set_cons_succ]
            have HSV24 := HK.out V24 hB24
            refine anyZ_take 6 8 (v := .agg #[ptr p, .int .i64 c, .int .i64 s, .int .i64 ep, .map (some q24), .map (some q23)]) rfl (by kernel_rfl) (fun _ _ _ h => h.elim) (Or.inl ⟨by rfl, fun wx hx => run_build67 (by rfl) (by rfl) (by rfl) (by rfl) (by rfl) (by rfl)⟩) HSV24 ?_
            try simp only [Act.put, List.getElem_toArray, List.getElem_cons_zero, List.getElem_cons_succ, List.setIfInBounds_toArray, List.set_cons_zero, List.set_cons_succ]
            refine anyZ_ready (rs := [7]) (by kernel_rfl) (by simp) ?_
            obtain ⟨V25, q25, hV25, hq25, f25, up25, bl25⟩ := alloc_let V24 (.cells #[ptr p, .int .i64 c, .int .i64 s, .int .i64 ep, .map (some q24), .map (some q23)] 67)
            refine readyZ.cons rfl rfl (run_box67 (by rfl) (by rfl)) (fun _ => by rw [hV25]; exact HK.out _ (bt hB24 bl25)) ?_ readyZ.nil
            · rw [hV25, hq25]
              have hB25 := bt hB24 bl25
              have lo25 : X.heap.size ≤ q25 := hq25 ▸ (hB24).size
              try simp only [Act.put, List.getElem_toArray, List.getElem_cons_zero, List.getElem_cons_succ, List.setIfInBounds_toArray, List.set_cons_zero, List.set_cons_succ]
              exact HG V25 q24 q23 q25 q19 ⟨hB25, ⟨(up25 _ _ f24).1, (up25 _ _ (up24 _ _ f23).1).1, (fun e => (up24 _ _ f23).2 e.symm)⟩, f25, ⟨(up25 _ _ (up24 _ _ (up23 _ _ f19).1).1).1, lo19⟩, lo24, lo23, lo25⟩
    obtain ⟨V26, q26, hV26, hq26, f26, up26, bl26⟩ := alloc_let V0 (.map #[] 0)
    refine readyZ.cons rfl rfl (run_make (by rfl)) (fun _ => by rw [hV26]; exact HK.out _ (bt b0 bl26)) ?_ ?_
    · rw [hV26, hq26]
      have hB26 := bt b0 bl26
      have lo26 : X.heap.size ≤ q26 := hq26 ▸ (b0).size
      try simp only [Act.put, List.getElem_toArray, List.getElem_cons_zero, List.getElem_cons_succ, List.setIfInBounds_toArray, List.set_cons_zero, List.set_cons_succ]
      refine anyZ_ready (rs := [3, 5, 8]) (by kernel_rfl) (by simp) ?_
      refine readyZ.call rfl rfl (run_c18 (by rfl) (by rfl) (by simp only [List.map_toArray, List.map_cons, List.map_nil]; rfl)) (HEp.out V26 hB26) ?_ ?_
      · rintro e V' ⟨rfl, hv⟩
        have hv' := hv.symm
        subst hv'
        refine ⟨_, rfl, fun _ => HK.out _ hB26, ?_⟩
        try simp only [Act.put, List.getElem_toArray, List.getElem_cons_zero, List.getElem_cons_succ, List.setIfInBounds_toArray, List.set_cons_zero, List.set_cons_succ]
        refine anyZ_ready (rs := [5, 8]) (by kernel_rfl) (by simp) ?_
        obtain ⟨V27, q27, hV27, hq27, f27, up27, bl27⟩ := alloc_let V26 (.map #[] 0)
        refine readyZ.cons rfl rfl (run_make (by rfl)) (fun _ => by rw [hV27]; exact HK.out _ (bt hB26 bl27)) ?_ ?_
        · rw [hV27, hq27]
          have hB27 := bt hB26 bl27
          have lo27 : X.heap.size ≤ q27 := hq27 ▸ (hB26).size
          try simp only [Act.put, List.getElem_toArray, List.getElem_cons_zero, List.getElem_cons_succ, List.setIfInBounds_toArray, List.set_cons_zero, List.set_cons_succ]
          have HSV27 := HK.out V27 hB27
          refine anyZ_take 6 8 (v := .agg #[ptr p, .int .i64 c, .int .i64 s, .int .i64 ep, .map (some q26), .map (some q27)]) rfl (by kernel_rfl) (fun _ _ _ h => h.elim) (Or.inl ⟨by rfl, fun wx hx => run_build67 (by rfl) (by rfl) (by rfl) (by rfl) (by rfl) (by rfl)⟩) HSV27 ?_
          try simp only [Act.put, List.getElem_toArray, List.getElem_cons_zero, List.getElem_cons_succ, List.setIfInBounds_toArray, List.set_cons_zero, List.set_cons_succ]
          refine anyZ_ready (rs := [7, 8]) (by kernel_rfl) (by simp) ?_
          obtain ⟨V28, q28, hV28, hq28, f28, up28, bl28⟩ := alloc_let V27 (.cells #[ptr p, .int .i64 c, .int .i64 s, .int .i64 ep, .map (some q26), .map (some q27)] 67)
          refine readyZ.cons rfl rfl (run_box67 (by rfl) (by rfl)) (fun _ => by rw [hV28]; exact HK.out _ (bt hB27 bl28)) ?_ ?_
          · rw [hV28, hq28]
            have hB28 := bt hB27 bl28
            have lo28 : X.heap.size ≤ q28 := hq28 ▸ (hB27).size
            try simp only [Act.put, List.getElem_toArray, List.getElem_cons_zero, List.getElem_cons_succ, List.setIfInBounds_toArray, List.set_cons_zero, List.set_cons_succ]
            refine anyZ_ready (rs := [8]) (by kernel_rfl) (by simp) ?_
            obtain ⟨V29, q29, hV29, hq29, f29, up29, bl29⟩ := alloc_let V28 (.cells #[.pointer none] 34)
            refine readyZ.cons rfl rfl (run_alloc34 (by rfl)) (fun _ => by rw [hV29]; exact HK.out _ (bt hB28 bl29)) ?_ readyZ.nil
            · rw [hV29, hq29]
              have hB29 := bt hB28 bl29
              have lo29 : X.heap.size ≤ q29 := hq29 ▸ (hB28).size
              try simp only [Act.put, List.getElem_toArray, List.getElem_cons_zero, List.getElem_cons_succ, List.setIfInBounds_toArray, List.set_cons_zero, List.set_cons_succ]
              exact HG V29 q26 q27 q28 q29 ⟨hB29, ⟨(up29 _ _ (up28 _ _ (up27 _ _ f26).1).1).1, (up29 _ _ (up28 _ _ f27).1).1, (up27 _ _ f26).2⟩, (up29 _ _ f28).1, ⟨f29, lo29⟩, lo26, lo27, lo28⟩
          obtain ⟨V30, q30, hV30, hq30, f30, up30, bl30⟩ := alloc_let V27 (.cells #[.pointer none] 34)
          refine readyZ.cons rfl rfl (run_alloc34 (by rfl)) (fun _ => by rw [hV30]; exact HK.out _ (bt hB27 bl30)) ?_ readyZ.nil
          · rw [hV30, hq30]
            have hB30 := bt hB27 bl30
            have lo30 : X.heap.size ≤ q30 := hq30 ▸ (hB27).size
            try simp only [Act.put, List.getElem_toArray, List.getElem_cons_zero, List.getElem_cons_succ, List.setIfInBounds_toArray, List.set_cons_zero, List.set_cons_succ]
            refine anyZ_ready (rs := [7]) (by kernel_rfl) (by simp) ?_
            obtain ⟨V31, q31, hV31, hq31, f31, up31, bl31⟩ := alloc_let V30 (.cells #[ptr p, .int .i64 c, .int .i64 s, .int .i64 ep, .map (some q26), .map (some q27)] 67)
            refine readyZ.cons rfl rfl (run_box67 (by rfl) (by rfl)) (fun _ => by rw [hV31]; exact HK.out _ (bt hB30 bl31)) ?_ readyZ.nil
            · rw [hV31, hq31]
              have hB31 := bt hB30 bl31
              have lo31 : X.heap.size ≤ q31 := hq31 ▸ (hB30).size
              try simp only [Act.put, List.getElem_toArray, List.getElem_cons_zero, List.getElem_cons_succ, List.setIfInBounds_toArray, List.set_cons_zero, List.set_cons_succ]
              exact HG V31 q26 q27 q31 q30 ⟨hB31, ⟨(up31 _ _ (up30 _ _ (up27 _ _ f26).1).1).1, (up31 _ _ (up30 _ _ f27).1).1, (up27 _ _ f26).2⟩, f31, ⟨(up31 _ _ f30).1, lo30⟩, lo26, lo27, lo31⟩
        obtain ⟨V32, q32, hV32, hq32, f32, up32, bl32⟩ := alloc_let V26 (.cells #[.pointer none] 34)
        refine readyZ.cons rfl rfl (run_alloc34 (by rfl)) (fun _ => by rw [hV32]; exact HK.out _ (bt hB26 bl32)) ?_ readyZ.nil
        · rw [hV32, hq32]
          have hB32 := bt hB26 bl32
          have lo32 : X.heap.size ≤ q32 := hq32 ▸ (hB26).size
          try simp only [Act.put, List.getElem_toArray, List.getElem_cons_zero, List.getElem_cons_succ, List.setIfInBounds_toArray, List.set_cons_zero, List.set_cons_succ]
          refine anyZ_ready (rs := [5]) (by kernel_rfl) (by simp) ?_
          obtain ⟨V33, q33, hV33, hq33, f33, up33, bl33⟩ := alloc_let V32 (.map #[] 0)
          refine readyZ.cons rfl rfl (run_make (by rfl)) (fun _ => by rw [hV33]; exact HK.out _ (bt hB32 bl33)) ?_ readyZ.nil
          · rw [hV33, hq33]
            have hB33 := bt hB32 bl33
            have lo33 : X.heap.size ≤ q33 := hq33 ▸ (hB32).size
            try simp only [Act.put, List.getElem_toArray, List.getElem_cons_zero, List.getElem_cons_succ, List.setIfInBounds_toArray, List.set_cons_zero, List.set_cons_succ]
            have HSV33 := HK.out V33 hB33
            refine anyZ_take 6 8 (v := .agg #[ptr p, .int .i64 c, .int .i64 s, .int .i64 ep, .map (some q26), .map (some q33)]) rfl (by kernel_rfl) (fun _ _ _ h => h.elim) (Or.inl ⟨by rfl, fun wx hx => run_build67 (by rfl) (by rfl) (by rfl) (by rfl) (by rfl) (by rfl)⟩) HSV33 ?_
            try simp only [Act.put, List.getElem_toArray, List.getElem_cons_zero, List.getElem_cons_succ, List.setIfInBounds_toArray, List.set_cons_zero, List.set_cons_succ]
            refine anyZ_ready (rs := [7]) (by kernel_rfl) (by simp) ?_
            obtain ⟨V34, q34, hV34, hq34, f34, up34, bl34⟩ := alloc_let V33 (.cells #[ptr p, .int .i64 c, .int .i64 s, .int .i64 ep, .map (some q26), .map (some q33)] 67)
            refine readyZ.cons rfl rfl (run_box67 (by rfl) (by rfl)) (fun _ => by rw [hV34]; exact HK.out _ (bt hB33 bl34)) ?_ readyZ.nil
            · rw [hV34, hq34]
              have hB34 := bt hB33 bl34
              have lo34 : X.heap.size ≤ q34 := hq34 ▸ (hB33).size
              try simp only [Act.put, List.getElem_toArray, List.getElem_cons_zero, List.getElem_cons_succ, List.setIfInBounds_toArray, List.set_cons_zero, List.set_cons_succ]
              exact HG V34 q26 q33 q34 q32 ⟨hB34, ⟨(up34 _ _ (up33 _ _ (up32 _ _ f26).1).1).1, (up34 _ _ f33).1, (up33 _ _ (up32 _ _ f26).1).2⟩, f34, ⟨(up34 _ _ (up33 _ _ f32).1).1, lo32⟩, lo26, lo33, lo34⟩
      obtain ⟨V35, q35, hV35, hq35, f35, up35, bl35⟩ := alloc_let V26 (.map #[] 0)
      refine readyZ.cons rfl rfl (run_make (by rfl)) (fun _ => by rw [hV35]; exact HK.out _ (bt hB26 bl35)) ?_ ?_
      · rw [hV35, hq35]
        have hB35 := bt hB26 bl35
        have lo35 : X.heap.size ≤ q35 := hq35 ▸ (hB26).size
        try simp only [Act.put, List.getElem_toArray, List.getElem_cons_zero, List.getElem_cons_succ, List.setIfInBounds_toArray, List.set_cons_zero, List.set_cons_succ]
        refine anyZ_ready (rs := [3, 8]) (by kernel_rfl) (by simp) ?_
        refine readyZ.call rfl rfl (run_c18 (by rfl) (by rfl) (by simp only [List.map_toArray, List.map_cons, List.map_nil]; rfl)) (HEp.out V35 hB35) ?_ ?_
        · rintro e V' ⟨rfl, hv⟩
          have hv' := hv.symm
          subst hv'
          refine ⟨_, rfl, fun _ => HK.out _ hB35, ?_⟩
          try simp only [Act.put, List.getElem_toArray, List.getElem_cons_zero, List.getElem_cons_succ, List.setIfInBounds_toArray, List.set_cons_zero, List.set_cons_succ]
          have HSV35 := HK.out V35 hB35
          refine anyZ_take 6 8 (v := .agg #[ptr p, .int .i64 c, .int .i64 s, .int .i64 ep, .map (some q26), .map (some q35)]) rfl (by kernel_rfl) (fun _ _ _ h => h.elim) (Or.inl ⟨by rfl, fun wx hx => run_build67 (by rfl) (by rfl) (by rfl) (by rfl) (by rfl) (by rfl)⟩) HSV35 ?_
          try simp only [Act.put, List.getElem_toArray, List.getElem_cons_zero, List.getElem_cons_succ, List.setIfInBounds_toArray, List.set_cons_zero, List.set_cons_succ]
          refine anyZ_ready (rs := [7, 8]) (by kernel_rfl) (by simp) ?_
          obtain ⟨V36, q36, hV36, hq36, f36, up36, bl36⟩ := alloc_let V35 (.cells #[ptr p, .int .i64 c, .int .i64 s, .int .i64 ep, .map (some q26), .map (some q35)] 67)
          refine readyZ.cons rfl rfl (run_box67 (by rfl) (by rfl)) (fun _ => by rw [hV36]; exact HK.out _ (bt hB35 bl36)) ?_ ?_
          · rw [hV36, hq36]
            have hB36 := bt hB35 bl36
            have lo36 : X.heap.size ≤ q36 := hq36 ▸ (hB35).size
            try simp only [Act.put, List.getElem_toArray, List.getElem_cons_zero, List.getElem_cons_succ, List.setIfInBounds_toArray, List.set_cons_zero, List.set_cons_succ]
            refine anyZ_ready (rs := [8]) (by kernel_rfl) (by simp) ?_
            obtain ⟨V37, q37, hV37, hq37, f37, up37, bl37⟩ := alloc_let V36 (.cells #[.pointer none] 34)
            refine readyZ.cons rfl rfl (run_alloc34 (by rfl)) (fun _ => by rw [hV37]; exact HK.out _ (bt hB36 bl37)) ?_ readyZ.nil
            · rw [hV37, hq37]
              have hB37 := bt hB36 bl37
              have lo37 : X.heap.size ≤ q37 := hq37 ▸ (hB36).size
              try simp only [Act.put, List.getElem_toArray, List.getElem_cons_zero, List.getElem_cons_succ, List.setIfInBounds_toArray, List.set_cons_zero, List.set_cons_succ]
              exact HG V37 q26 q35 q36 q37 ⟨hB37, ⟨(up37 _ _ (up36 _ _ (up35 _ _ f26).1).1).1, (up37 _ _ (up36 _ _ f35).1).1, (up35 _ _ f26).2⟩, (up37 _ _ f36).1, ⟨f37, lo37⟩, lo26, lo35, lo36⟩
          obtain ⟨V38, q38, hV38, hq38, f38, up38, bl38⟩ := alloc_let V35 (.cells #[.pointer none] 34)
          refine readyZ.cons rfl rfl (run_alloc34 (by rfl)) (fun _ => by rw [hV38]; exact HK.out _ (bt hB35 bl38)) ?_ readyZ.nil
          · rw [hV38, hq38]
            have hB38 := bt hB35 bl38
            have lo38 : X.heap.size ≤ q38 := hq38 ▸ (hB35).size
            try simp only [Act.put, List.getElem_toArray, List.getElem_cons_zero, List.getElem_cons_succ, List.setIfInBounds_toArray, List.set_cons_zero, List.set_cons_succ]
            refine anyZ_ready (rs := [7]) (by kernel_rfl) (by simp) ?_
            obtain ⟨V39, q39, hV39, hq39, f39, up39, bl39⟩ := alloc_let V38 (.cells #[ptr p, .int .i64 c, .int .i64 s, .int .i64 ep, .map (some q26), .map (some q35)] 67)
            refine readyZ.cons rfl rfl (run_box67 (by rfl) (by rfl)) (fun _ => by rw [hV39]; exact HK.out _ (bt hB38 bl39)) ?_ readyZ.nil
            · rw [hV39, hq39]
              have hB39 := bt hB38 bl39
              have lo39 : X.heap.size ≤ q39 := hq39 ▸ (hB38).size
              try simp only [Act.put, List.getElem_toArray, List.getElem_cons_zero, List.getElem_cons_succ, List.setIfInBounds_toArray, List.set_cons_zero, List.set_cons_succ]
              exact HG V39 q26 q35 q39 q38 ⟨hB39, ⟨(up39 _ _ (up38 _ _ (up35 _ _ f26).1).1).1, (up39 _ _ (up38 _ _ f35).1).1, (up35 _ _ f26).2⟩, f39, ⟨(up39 _ _ f38).1, lo38⟩, lo26, lo35, lo39⟩
        obtain ⟨V40, q40, hV40, hq40, f40, up40, bl40⟩ := alloc_let V35 (.cells #[.pointer none] 34)
        refine readyZ.cons rfl rfl (run_alloc34 (by rfl)) (fun _ => by rw [hV40]; exact HK.out _ (bt hB35 bl40)) ?_ readyZ.nil
        · rw [hV40, hq40]
          have hB40 := bt hB35 bl40
          have lo40 : X.heap.size ≤ q40 := hq40 ▸ (hB35).size
          try simp only [Act.put, List.getElem_toArray, List.getElem_cons_zero, List.getElem_cons_succ, List.setIfInBounds_toArray, List.set_cons_zero, List.set_cons_succ]
          refine anyZ_ready (rs := [3]) (by kernel_rfl) (by simp) ?_
          refine readyZ.call rfl rfl (run_c18 (by rfl) (by rfl) (by simp only [List.map_toArray, List.map_cons, List.map_nil]; rfl)) (HEp.out V40 hB40) ?_ readyZ.nil
          · rintro e V' ⟨rfl, hv⟩
            have hv' := hv.symm
            subst hv'
            refine ⟨_, rfl, fun _ => HK.out _ hB40, ?_⟩
            try simp only [Act.put, List.getElem_toArray, List.getElem_cons_zero, List.getElem_cons_succ, List.setIfInBounds_toArray, List.set_cons_zero, List.set_cons_succ]
            have HSV40 := HK.out V40 hB40
            refine anyZ_take 6 8 (v := .agg #[ptr p, .int .i64 c, .int .i64 s, .int .i64 ep, .map (some q26), .map (some q35)]) rfl (by kernel_rfl) (fun _ _ _ h => h.elim) (Or.inl ⟨by rfl, fun wx hx => run_build67 (by rfl) (by rfl) (by rfl) (by rfl) (by rfl) (by rfl)⟩) HSV40 ?_
            try simp only [Act.put, List.getElem_toArray, List.getElem_cons_zero, List.getElem_cons_succ, List.setIfInBounds_toArray, List.set_cons_zero, List.set_cons_succ]
            refine anyZ_ready (rs := [7]) (by kernel_rfl) (by simp) ?_
            obtain ⟨V41, q41, hV41, hq41, f41, up41, bl41⟩ := alloc_let V40 (.cells #[ptr p, .int .i64 c, .int .i64 s, .int .i64 ep, .map (some q26), .map (some q35)] 67)
            refine readyZ.cons rfl rfl (run_box67 (by rfl) (by rfl)) (fun _ => by rw [hV41]; exact HK.out _ (bt hB40 bl41)) ?_ readyZ.nil
            · rw [hV41, hq41]
              have hB41 := bt hB40 bl41
              have lo41 : X.heap.size ≤ q41 := hq41 ▸ (hB40).size
              try simp only [Act.put, List.getElem_toArray, List.getElem_cons_zero, List.getElem_cons_succ, List.setIfInBounds_toArray, List.set_cons_zero, List.set_cons_succ]
              exact HG V41 q26 q35 q41 q40 ⟨hB41, ⟨(up41 _ _ (up40 _ _ (up35 _ _ f26).1).1).1, (up41 _ _ (up40 _ _ f35).1).1, (up35 _ _ f26).2⟩, f41, ⟨(up41 _ _ f40).1, lo40⟩, lo26, lo35, lo41⟩
      obtain ⟨V42, q42, hV42, hq42, f42, up42, bl42⟩ := alloc_let V26 (.cells #[.pointer none] 34)
      refine readyZ.cons rfl rfl (run_alloc34 (by rfl)) (fun _ => by rw [hV42]; exact HK.out _ (bt hB26 bl42)) ?_ readyZ.nil
      · rw [hV42, hq42]
        have hB42 := bt hB26 bl42
        have lo42 : X.heap.size ≤ q42 := hq42 ▸ (hB26).size
        try simp only [Act.put, List.getElem_toArray, List.getElem_cons_zero, List.getElem_cons_succ, List.setIfInBounds_toArray, List.set_cons_zero, List.set_cons_succ]
        refine anyZ_ready (rs := [3, 5]) (by kernel_rfl) (by simp) ?_
        refine readyZ.call rfl rfl (run_c18 (by rfl) (by rfl) (by simp only [List.map_toArray, List.map_cons, List.map_nil]; rfl)) (HEp.out V42 hB42) ?_ ?_
        · rintro e V' ⟨rfl, hv⟩
          have hv' := hv.symm
          subst hv'
          refine ⟨_, rfl, fun _ => HK.out _ hB42, ?_⟩
          try simp only [Act.put, List.getElem_toArray, List.getElem_cons_zero, List.getElem_cons_succ, List.setIfInBounds_toArray, List.set_cons_zero, List.set_cons_succ]
          refine anyZ_ready (rs := [5]) (by kernel_rfl) (by simp) ?_
          obtain ⟨V43, q43, hV43, hq43, f43, up43, bl43⟩ := alloc_let V42 (.map #[] 0)
          refine readyZ.cons rfl rfl (run_make (by rfl)) (fun _ => by rw [hV43]; exact HK.out _ (bt hB42 bl43)) ?_ readyZ.nil
          · rw [hV43, hq43]
            have hB43 := bt hB42 bl43
            have lo43 : X.heap.size ≤ q43 := hq43 ▸ (hB42).size
            try simp only [Act.put, List.getElem_toArray, List.getElem_cons_zero, List.getElem_cons_succ, List.setIfInBounds_toArray, List.set_cons_zero, List.set_cons_succ]
            have HSV43 := HK.out V43 hB43
            refine anyZ_take 6 8 (v := .agg #[ptr p, .int .i64 c, .int .i64 s, .int .i64 ep, .map (some q26), .map (some q43)]) rfl (by kernel_rfl) (fun _ _ _ h => h.elim) (Or.inl ⟨by rfl, fun wx hx => run_build67 (by rfl) (by rfl) (by rfl) (by rfl) (by rfl) (by rfl)⟩) HSV43 ?_
            try simp only [Act.put, List.getElem_toArray, List.getElem_cons_zero, List.getElem_cons_succ, List.setIfInBounds_toArray, List.set_cons_zero, List.set_cons_succ]
            refine anyZ_ready (rs := [7]) (by kernel_rfl) (by simp) ?_
            obtain ⟨V44, q44, hV44, hq44, f44, up44, bl44⟩ := alloc_let V43 (.cells #[ptr p, .int .i64 c, .int .i64 s, .int .i64 ep, .map (some q26), .map (some q43)] 67)
            refine readyZ.cons rfl rfl (run_box67 (by rfl) (by rfl)) (fun _ => by rw [hV44]; exact HK.out _ (bt hB43 bl44)) ?_ readyZ.nil
            · rw [hV44, hq44]
              have hB44 := bt hB43 bl44
              have lo44 : X.heap.size ≤ q44 := hq44 ▸ (hB43).size
              try simp only [Act.put, List.getElem_toArray, List.getElem_cons_zero, List.getElem_cons_succ, List.setIfInBounds_toArray, List.set_cons_zero, List.set_cons_succ]
              exact HG V44 q26 q43 q44 q42 ⟨hB44, ⟨(up44 _ _ (up43 _ _ (up42 _ _ f26).1).1).1, (up44 _ _ f43).1, (up43 _ _ (up42 _ _ f26).1).2⟩, f44, ⟨(up44 _ _ (up43 _ _ f42).1).1, lo42⟩, lo26, lo43, lo44⟩
        obtain ⟨V45, q45, hV45, hq45, f45, up45, bl45⟩ := alloc_let V42 (.map #[] 0)
        refine readyZ.cons rfl rfl (run_make (by rfl)) (fun _ => by rw [hV45]; exact HK.out _ (bt hB42 bl45)) ?_ readyZ.nil
        · rw [hV45, hq45]
          have hB45 := bt hB42 bl45
          have lo45 : X.heap.size ≤ q45 := hq45 ▸ (hB42).size
          try simp only [Act.put, List.getElem_toArray, List.getElem_cons_zero, List.getElem_cons_succ, List.setIfInBounds_toArray, List.set_cons_zero, List.set_cons_succ]
          refine anyZ_ready (rs := [3]) (by kernel_rfl) (by simp) ?_
          refine readyZ.call rfl rfl (run_c18 (by rfl) (by rfl) (by simp only [List.map_toArray, List.map_cons, List.map_nil]; rfl)) (HEp.out V45 hB45) ?_ readyZ.nil
          · rintro e V' ⟨rfl, hv⟩
            have hv' := hv.symm
            subst hv'
            refine ⟨_, rfl, fun _ => HK.out _ hB45, ?_⟩
            try simp only [Act.put, List.getElem_toArray, List.getElem_cons_zero, List.getElem_cons_succ, List.setIfInBounds_toArray, List.set_cons_zero, List.set_cons_succ]
            have HSV45 := HK.out V45 hB45
            refine anyZ_take 6 8 (v := .agg #[ptr p, .int .i64 c, .int .i64 s, .int .i64 ep, .map (some q26), .map (some q45)]) rfl (by kernel_rfl) (fun _ _ _ h => h.elim) (Or.inl ⟨by rfl, fun wx hx => run_build67 (by rfl) (by rfl) (by rfl) (by rfl) (by rfl) (by rfl)⟩) HSV45 ?_
            try simp only [Act.put, List.getElem_toArray, List.getElem_cons_zero, List.getElem_cons_succ, List.setIfInBounds_toArray, List.set_cons_zero, List.set_cons_succ]
            refine anyZ_ready (rs := [7]) (by kernel_rfl) (by simp) ?_
            obtain ⟨V46, q46, hV46, hq46, f46, up46, bl46⟩ := alloc_let V45 (.cells #[ptr p, .int .i64 c, .int .i64 s, .int .i64 ep, .map (some q26), .map (some q45)] 67)
            refine readyZ.cons rfl rfl (run_box67 (by rfl) (by rfl)) (fun _ => by rw [hV46]; exact HK.out _ (bt hB45 bl46)) ?_ readyZ.nil
            · rw [hV46, hq46]
              have hB46 := bt hB45 bl46
              have lo46 : X.heap.size ≤ q46 := hq46 ▸ (hB45).size
              try simp only [Act.put, List.getElem_toArray, List.getElem_cons_zero, List.getElem_cons_succ, List.setIfInBounds_toArray, List.set_cons_zero, List.set_cons_succ]
              exact HG V46 q26 q45 q46 q42 ⟨hB46, ⟨(up46 _ _ (up45 _ _ (up42 _ _ f26).1).1).1, (up46 _ _ f45).1, (up45 _ _ (up42 _ _ f26).1).2⟩, f46, ⟨(up46 _ _ (up45 _ _ f42).1).1, lo42⟩, lo26, lo45, lo46⟩
    obtain ⟨V47, q47, hV47, hq47, f47, up47, bl47⟩ := alloc_let V0 (.map #[] 0)
    refine readyZ.cons rfl rfl (run_make (by rfl)) (fun _ => by rw [hV47]; exact HK.out _ (bt b0 bl47)) ?_ ?_
    · rw [hV47, hq47]
      have hB47 := bt b0 bl47
      have lo47 : X.heap.size ≤ q47 := hq47 ▸ (b0).size
      try simp only [Act.put, List.getElem_toArray, List.getElem_cons_zero, List.getElem_cons_succ, List.setIfInBounds_toArray, List.set_cons_zero, List.set_cons_succ]
      refine anyZ_ready (rs := [3, 4, 8]) (by kernel_rfl) (by simp) ?_
      refine readyZ.call rfl rfl (run_c18 (by rfl) (by rfl) (by simp only [List.map_toArray, List.map_cons, List.map_nil]; rfl)) (HEp.out V47 hB47) ?_ ?_
      · rintro e V' ⟨rfl, hv⟩
        have hv' := hv.symm
        subst hv'
        refine ⟨_, rfl, fun _ => HK.out _ hB47, ?_⟩
        try simp only [Act.put, List.getElem_toArray, List.getElem_cons_zero, List.getElem_cons_succ, List.setIfInBounds_toArray, List.set_cons_zero, List.set_cons_succ]
        refine anyZ_ready (rs := [4, 8]) (by kernel_rfl) (by simp) ?_
        obtain ⟨V48, q48, hV48, hq48, f48, up48, bl48⟩ := alloc_let V47 (.map #[] 0)
        refine readyZ.cons rfl rfl (run_make (by rfl)) (fun _ => by rw [hV48]; exact HK.out _ (bt hB47 bl48)) ?_ ?_
        · rw [hV48, hq48]
          have hB48 := bt hB47 bl48
          have lo48 : X.heap.size ≤ q48 := hq48 ▸ (hB47).size
          try simp only [Act.put, List.getElem_toArray, List.getElem_cons_zero, List.getElem_cons_succ, List.setIfInBounds_toArray, List.set_cons_zero, List.set_cons_succ]
          have HSV48 := HK.out V48 hB48
          refine anyZ_take 6 8 (v := .agg #[ptr p, .int .i64 c, .int .i64 s, .int .i64 ep, .map (some q48), .map (some q47)]) rfl (by kernel_rfl) (fun _ _ _ h => h.elim) (Or.inl ⟨by rfl, fun wx hx => run_build67 (by rfl) (by rfl) (by rfl) (by rfl) (by rfl) (by rfl)⟩) HSV48 ?_
          try simp only [Act.put, List.getElem_toArray, List.getElem_cons_zero, List.getElem_cons_succ, List.setIfInBounds_toArray, List.set_cons_zero, List.set_cons_succ]
          refine anyZ_ready (rs := [7, 8]) (by kernel_rfl) (by simp) ?_
          obtain ⟨V49, q49, hV49, hq49, f49, up49, bl49⟩ := alloc_let V48 (.cells #[ptr p, .int .i64 c, .int .i64 s, .int .i64 ep, .map (some q48), .map (some q47)] 67)
          refine readyZ.cons rfl rfl (run_box67 (by rfl) (by rfl)) (fun _ => by rw [hV49]; exact HK.out _ (bt hB48 bl49)) ?_ ?_
          · rw [hV49, hq49]
            have hB49 := bt hB48 bl49
            have lo49 : X.heap.size ≤ q49 := hq49 ▸ (hB48).size
            try simp only [Act.put, List.getElem_toArray, List.getElem_cons_zero, List.getElem_cons_succ, List.setIfInBounds_toArray, List.set_cons_zero, List.set_cons_succ]
            refine anyZ_ready (rs := [8]) (by kernel_rfl) (by simp) ?_
            obtain ⟨V50, q50, hV50, hq50, f50, up50, bl50⟩ := alloc_let V49 (.cells #[.pointer none] 34)
            refine readyZ.cons rfl rfl (run_alloc34 (by rfl)) (fun _ => by rw [hV50]; exact HK.out _ (bt hB49 bl50)) ?_ readyZ.nil
            · rw [hV50, hq50]
              have hB50 := bt hB49 bl50
              have lo50 : X.heap.size ≤ q50 := hq50 ▸ (hB49).size
              try simp only [Act.put, List.getElem_toArray, List.getElem_cons_zero, List.getElem_cons_succ, List.setIfInBounds_toArray, List.set_cons_zero, List.set_cons_succ]
              exact HG V50 q48 q47 q49 q50 ⟨hB50, ⟨(up50 _ _ (up49 _ _ f48).1).1, (up50 _ _ (up49 _ _ (up48 _ _ f47).1).1).1, (fun e => (up48 _ _ f47).2 e.symm)⟩, (up50 _ _ f49).1, ⟨f50, lo50⟩, lo48, lo47, lo49⟩
          obtain ⟨V51, q51, hV51, hq51, f51, up51, bl51⟩ := alloc_let V48 (.cells #[.pointer none] 34)
          refine readyZ.cons rfl rfl (run_alloc34 (by rfl)) (fun _ => by rw [hV51]; exact HK.out _ (bt hB48 bl51)) ?_ readyZ.nil
          · rw [hV51, hq51]
            have hB51 := bt hB48 bl51
            have lo51 : X.heap.size ≤ q51 := hq51 ▸ (hB48).size
            try simp only [Act.put, List.getElem_toArray, List.getElem_cons_zero, List.getElem_cons_succ, List.setIfInBounds_toArray, List.set_cons_zero, List.set_cons_succ]
            refine anyZ_ready (rs := [7]) (by kernel_rfl) (by simp) ?_
            obtain ⟨V52, q52, hV52, hq52, f52, up52, bl52⟩ := alloc_let V51 (.cells #[ptr p, .int .i64 c, .int .i64 s, .int .i64 ep, .map (some q48), .map (some q47)] 67)
            refine readyZ.cons rfl rfl (run_box67 (by rfl) (by rfl)) (fun _ => by rw [hV52]; exact HK.out _ (bt hB51 bl52)) ?_ readyZ.nil
            · rw [hV52, hq52]
              have hB52 := bt hB51 bl52
              have lo52 : X.heap.size ≤ q52 := hq52 ▸ (hB51).size
              try simp only [Act.put, List.getElem_toArray, List.getElem_cons_zero, List.getElem_cons_succ, List.setIfInBounds_toArray, List.set_cons_zero, List.set_cons_succ]
              exact HG V52 q48 q47 q52 q51 ⟨hB52, ⟨(up52 _ _ (up51 _ _ f48).1).1, (up52 _ _ (up51 _ _ (up48 _ _ f47).1).1).1, (fun e => (up48 _ _ f47).2 e.symm)⟩, f52, ⟨(up52 _ _ f51).1, lo51⟩, lo48, lo47, lo52⟩
        obtain ⟨V53, q53, hV53, hq53, f53, up53, bl53⟩ := alloc_let V47 (.cells #[.pointer none] 34)
        refine readyZ.cons rfl rfl (run_alloc34 (by rfl)) (fun _ => by rw [hV53]; exact HK.out _ (bt hB47 bl53)) ?_ readyZ.nil
        · rw [hV53, hq53]
          have hB53 := bt hB47 bl53
          have lo53 : X.heap.size ≤ q53 := hq53 ▸ (hB47).size
          try simp only [Act.put, List.getElem_toArray, List.getElem_cons_zero, List.getElem_cons_succ, List.setIfInBounds_toArray, List.set_cons_zero, List.set_cons_succ]
          refine anyZ_ready (rs := [4]) (by kernel_rfl) (by simp) ?_
          obtain ⟨V54, q54, hV54, hq54, f54, up54, bl54⟩ := alloc_let V53 (.map #[] 0)
          refine readyZ.cons rfl rfl (run_make (by rfl)) (fun _ => by rw [hV54]; exact HK.out _ (bt hB53 bl54)) ?_ readyZ.nil
          · rw [hV54, hq54]
            have hB54 := bt hB53 bl54
            have lo54 : X.heap.size ≤ q54 := hq54 ▸ (hB53).size
            try simp only [Act.put, List.getElem_toArray, List.getElem_cons_zero, List.getElem_cons_succ, List.setIfInBounds_toArray, List.set_cons_zero, List.set_cons_succ]
            have HSV54 := HK.out V54 hB54
            refine anyZ_take 6 8 (v := .agg #[ptr p, .int .i64 c, .int .i64 s, .int .i64 ep, .map (some q54), .map (some q47)]) rfl (by kernel_rfl) (fun _ _ _ h => h.elim) (Or.inl ⟨by rfl, fun wx hx => run_build67 (by rfl) (by rfl) (by rfl) (by rfl) (by rfl) (by rfl)⟩) HSV54 ?_
            try simp only [Act.put, List.getElem_toArray, List.getElem_cons_zero, List.getElem_cons_succ, List.setIfInBounds_toArray, List.set_cons_zero, List.set_cons_succ]
            refine anyZ_ready (rs := [7]) (by kernel_rfl) (by simp) ?_
            obtain ⟨V55, q55, hV55, hq55, f55, up55, bl55⟩ := alloc_let V54 (.cells #[ptr p, .int .i64 c, .int .i64 s, .int .i64 ep, .map (some q54), .map (some q47)] 67)
            refine readyZ.cons rfl rfl (run_box67 (by rfl) (by rfl)) (fun _ => by rw [hV55]; exact HK.out _ (bt hB54 bl55)) ?_ readyZ.nil
            · rw [hV55, hq55]
              have hB55 := bt hB54 bl55
              have lo55 : X.heap.size ≤ q55 := hq55 ▸ (hB54).size
              try simp only [Act.put, List.getElem_toArray, List.getElem_cons_zero, List.getElem_cons_succ, List.setIfInBounds_toArray, List.set_cons_zero, List.set_cons_succ]
              exact HG V55 q54 q47 q55 q53 ⟨hB55, ⟨(up55 _ _ f54).1, (up55 _ _ (up54 _ _ (up53 _ _ f47).1).1).1, (fun e => (up54 _ _ (up53 _ _ f47).1).2 e.symm)⟩, f55, ⟨(up55 _ _ (up54 _ _ f53).1).1, lo53⟩, lo54, lo47, lo55⟩
      obtain ⟨V56, q56, hV56, hq56, f56, up56, bl56⟩ := alloc_let V47 (.map #[] 0)
      refine readyZ.cons rfl rfl (run_make (by rfl)) (fun _ => by rw [hV56]; exact HK.out _ (bt hB47 bl56)) ?_ ?_
      · rw [hV56, hq56]
        have hB56 := bt hB47 bl56
        have lo56 : X.heap.size ≤ q56 := hq56 ▸ (hB47).size
        try simp only [Act.put, List.getElem_toArray, List.getElem_cons_zero, List.getElem_cons_succ, List.setIfInBounds_toArray, List.set_cons_zero, List.set_cons_succ]
        refine anyZ_ready (rs := [3, 8]) (by kernel_rfl) (by simp) ?_
        refine readyZ.call rfl rfl (run_c18 (by rfl) (by rfl) (by simp only [List.map_toArray, List.map_cons, List.map_nil]; rfl)) (HEp.out V56 hB56) ?_ ?_
        · rintro e V' ⟨rfl, hv⟩
          have hv' := hv.symm
          subst hv'
          refine ⟨_, rfl, fun _ => HK.out _ hB56, ?_⟩
          try simp only [Act.put, List.getElem_toArray, List.getElem_cons_zero, List.getElem_cons_succ, List.setIfInBounds_toArray, List.set_cons_zero, List.set_cons_succ]
          have HSV56 := HK.out V56 hB56
          refine anyZ_take 6 8 (v := .agg #[ptr p, .int .i64 c, .int .i64 s, .int .i64 ep, .map (some q56), .map (some q47)]) rfl (by kernel_rfl) (fun _ _ _ h => h.elim) (Or.inl ⟨by rfl, fun wx hx => run_build67 (by rfl) (by rfl) (by rfl) (by rfl) (by rfl) (by rfl)⟩) HSV56 ?_
          try simp only [Act.put, List.getElem_toArray, List.getElem_cons_zero, List.getElem_cons_succ, List.setIfInBounds_toArray, List.set_cons_zero, List.set_cons_succ]
          refine anyZ_ready (rs := [7, 8]) (by kernel_rfl) (by simp) ?_
          obtain ⟨V57, q57, hV57, hq57, f57, up57, bl57⟩ := alloc_let V56 (.cells #[ptr p, .int .i64 c, .int .i64 s, .int .i64 ep, .map (some q56), .map (some q47)] 67)
          refine readyZ.cons rfl rfl (run_box67 (by rfl) (by rfl)) (fun _ => by rw [hV57]; exact HK.out _ (bt hB56 bl57)) ?_ ?_
          · rw [hV57, hq57]
            have hB57 := bt hB56 bl57
            have lo57 : X.heap.size ≤ q57 := hq57 ▸ (hB56).size
            try simp only [Act.put, List.getElem_toArray, List.getElem_cons_zero, List.getElem_cons_succ, List.setIfInBounds_toArray, List.set_cons_zero, List.set_cons_succ]
            refine anyZ_ready (rs := [8]) (by kernel_rfl) (by simp) ?_
            obtain ⟨V58, q58, hV58, hq58, f58, up58, bl58⟩ := alloc_let V57 (.cells #[.pointer none] 34)
            refine readyZ.cons rfl rfl (run_alloc34 (by rfl)) (fun _ => by rw [hV58]; exact HK.out _ (bt hB57 bl58)) ?_ readyZ.nil
            · rw [hV58, hq58]
              have hB58 := bt hB57 bl58
              have lo58 : X.heap.size ≤ q58 := hq58 ▸ (hB57).size
              try simp only [Act.put, List.getElem_toArray, List.getElem_cons_zero, List.getElem_cons_succ, List.setIfInBounds_toArray, List.set_cons_zero, List.set_cons_succ]
              exact HG V58 q56 q47 q57 q58 ⟨hB58, ⟨(up58 _ _ (up57 _ _ f56).1).1, (up58 _ _ (up57 _ _ (up56 _ _ f47).1).1).1, (fun e => (up56 _ _ f47).2 e.symm)⟩, (up58 _ _ f57).1, ⟨f58, lo58⟩, lo56, lo47, lo57⟩
          obtain ⟨V59, q59, hV59, hq59, f59, up59, bl59⟩ := alloc_let V56 (.cells #[.pointer none] 34)
          refine readyZ.cons rfl rfl (run_alloc34 (by rfl)) (fun _ => by rw [hV59]; exact HK.out _ (bt hB56 bl59)) ?_ readyZ.nil
          · rw [hV59, hq59]
            have hB59 := bt hB56 bl59
            have lo59 : X.heap.size ≤ q59 := hq59 ▸ (hB56).size
            try simp only [Act.put, List.getElem_toArray, List.getElem_cons_zero, List.getElem_cons_succ, List.setIfInBounds_toArray, List.set_cons_zero, List.set_cons_succ]
            refine anyZ_ready (rs := [7]) (by kernel_rfl) (by simp) ?_
            obtain ⟨V60, q60, hV60, hq60, f60, up60, bl60⟩ := alloc_let V59 (.cells #[ptr p, .int .i64 c, .int .i64 s, .int .i64 ep, .map (some q56), .map (some q47)] 67)
            refine readyZ.cons rfl rfl (run_box67 (by rfl) (by rfl)) (fun _ => by rw [hV60]; exact HK.out _ (bt hB59 bl60)) ?_ readyZ.nil
            · rw [hV60, hq60]
              have hB60 := bt hB59 bl60
              have lo60 : X.heap.size ≤ q60 := hq60 ▸ (hB59).size
              try simp only [Act.put, List.getElem_toArray, List.getElem_cons_zero, List.getElem_cons_succ, List.setIfInBounds_toArray, List.set_cons_zero, List.set_cons_succ]
              exact HG V60 q56 q47 q60 q59 ⟨hB60, ⟨(up60 _ _ (up59 _ _ f56).1).1, (up60 _ _ (up59 _ _ (up56 _ _ f47).1).1).1, (fun e => (up56 _ _ f47).2 e.symm)⟩, f60, ⟨(up60 _ _ f59).1, lo59⟩, lo56, lo47, lo60⟩
        obtain ⟨V61, q61, hV61, hq61, f61, up61, bl61⟩ := alloc_let V56 (.cells #[.pointer none] 34)
        refine readyZ.cons rfl rfl (run_alloc34 (by rfl)) (fun _ => by rw [hV61]; exact HK.out _ (bt hB56 bl61)) ?_ readyZ.nil
        · rw [hV61, hq61]
          have hB61 := bt hB56 bl61
          have lo61 : X.heap.size ≤ q61 := hq61 ▸ (hB56).size
          try simp only [Act.put, List.getElem_toArray, List.getElem_cons_zero, List.getElem_cons_succ, List.setIfInBounds_toArray, List.set_cons_zero, List.set_cons_succ]
          refine anyZ_ready (rs := [3]) (by kernel_rfl) (by simp) ?_
          refine readyZ.call rfl rfl (run_c18 (by rfl) (by rfl) (by simp only [List.map_toArray, List.map_cons, List.map_nil]; rfl)) (HEp.out V61 hB61) ?_ readyZ.nil
          · rintro e V' ⟨rfl, hv⟩
            have hv' := hv.symm
            subst hv'
            refine ⟨_, rfl, fun _ => HK.out _ hB61, ?_⟩
            try simp only [Act.put, List.getElem_toArray, List.getElem_cons_zero, List.getElem_cons_succ, List.setIfInBounds_toArray, List.set_cons_zero, List.set_cons_succ]
            have HSV61 := HK.out V61 hB61
            refine anyZ_take 6 8 (v := .agg #[ptr p, .int .i64 c, .int .i64 s, .int .i64 ep, .map (some q56), .map (some q47)]) rfl (by kernel_rfl) (fun _ _ _ h => h.elim) (Or.inl ⟨by rfl, fun wx hx => run_build67 (by rfl) (by rfl) (by rfl) (by rfl) (by rfl) (by rfl)⟩) HSV61 ?_
            try simp only [Act.put, List.getElem_toArray, List.getElem_cons_zero, List.getElem_cons_succ, List.setIfInBounds_toArray, List.set_cons_zero, List.set_cons_succ]
            refine anyZ_ready (rs := [7]) (by kernel_rfl) (by simp) ?_
            obtain ⟨V62, q62, hV62, hq62, f62, up62, bl62⟩ := alloc_let V61 (.cells #[ptr p, .int .i64 c, .int .i64 s, .int .i64 ep, .map (some q56), .map (some q47)] 67)
            refine readyZ.cons rfl rfl (run_box67 (by rfl) (by rfl)) (fun _ => by rw [hV62]; exact HK.out _ (bt hB61 bl62)) ?_ readyZ.nil
            · rw [hV62, hq62]
              have hB62 := bt hB61 bl62
              have lo62 : X.heap.size ≤ q62 := hq62 ▸ (hB61).size
              try simp only [Act.put, List.getElem_toArray, List.getElem_cons_zero, List.getElem_cons_succ, List.setIfInBounds_toArray, List.set_cons_zero, List.set_cons_succ]
              exact HG V62 q56 q47 q62 q61 ⟨hB62, ⟨(up62 _ _ (up61 _ _ f56).1).1, (up62 _ _ (up61 _ _ (up56 _ _ f47).1).1).1, (fun e => (up56 _ _ f47).2 e.symm)⟩, f62, ⟨(up62 _ _ f61).1, lo61⟩, lo56, lo47, lo62⟩
      obtain ⟨V63, q63, hV63, hq63, f63, up63, bl63⟩ := alloc_let V47 (.cells #[.pointer none] 34)
      refine readyZ.cons rfl rfl (run_alloc34 (by rfl)) (fun _ => by rw [hV63]; exact HK.out _ (bt hB47 bl63)) ?_ readyZ.nil
      · rw [hV63, hq63]
        have hB63 := bt hB47 bl63
        have lo63 : X.heap.size ≤ q63 := hq63 ▸ (hB47).size
        try simp only [Act.put, List.getElem_toArray, List.getElem_cons_zero, List.getElem_cons_succ, List.setIfInBounds_toArray, List.set_cons_zero, List.set_cons_succ]
        refine anyZ_ready (rs := [3, 4]) (by kernel_rfl) (by simp) ?_
        refine readyZ.call rfl rfl (run_c18 (by rfl) (by rfl) (by simp only [List.map_toArray, List.map_cons, List.map_nil]; rfl)) (HEp.out V63 hB63) ?_ ?_
        · rintro e V' ⟨rfl, hv⟩
          have hv' := hv.symm
          subst hv'
          refine ⟨_, rfl, fun _ => HK.out _ hB63, ?_⟩
          try simp only [Act.put, List.getElem_toArray, List.getElem_cons_zero, List.getElem_cons_succ, List.setIfInBounds_toArray, List.set_cons_zero, List.set_cons_succ]
          refine anyZ_ready (rs := [4]) (by kernel_rfl) (by simp) ?_
          obtain ⟨V64, q64, hV64, hq64, f64, up64, bl64⟩ := alloc_let V63 (.map #[] 0)
          refine readyZ.cons rfl rfl (run_make (by rfl)) (fun _ => by rw [hV64]; exact HK.out _ (bt hB63 bl64)) ?_ readyZ.nil
          · rw [hV64, hq64]
            have hB64 := bt hB63 bl64
            have lo64 : X.heap.size ≤ q64 := hq64 ▸ (hB63).size
            try simp only [Act.put, List.getElem_toArray, List.getElem_cons_zero, List.getElem_cons_succ, List.setIfInBounds_toArray, List.set_cons_zero, List.set_cons_succ]
            have HSV64 := HK.out V64 hB64
            refine anyZ_take 6 8 (v := .agg #[ptr p, .int .i64 c, .int .i64 s, .int .i64 ep, .map (some q64), .map (some q47)]) rfl (by kernel_rfl) (fun _ _ _ h => h.elim) (Or.inl ⟨by rfl, fun wx hx => run_build67 (by rfl) (by rfl) (by rfl) (by rfl) (by rfl) (by rfl)⟩) HSV64 ?_
            try simp only [Act.put, List.getElem_toArray, List.getElem_cons_zero, List.getElem_cons_succ, List.setIfInBounds_toArray, List.set_cons_zero, List.set_cons_succ]
            refine anyZ_ready (rs := [7]) (by kernel_rfl) (by simp) ?_
            obtain ⟨V65, q65, hV65, hq65, f65, up65, bl65⟩ := alloc_let V64 (.cells #[ptr p, .int .i64 c, .int .i64 s, .int .i64 ep, .map (some q64), .map (some q47)] 67)
            refine readyZ.cons rfl rfl (run_box67 (by rfl) (by rfl)) (fun _ => by rw [hV65]; exact HK.out _ (bt hB64 bl65)) ?_ readyZ.nil
            · rw [hV65, hq65]
              have hB65 := bt hB64 bl65
              have lo65 : X.heap.size ≤ q65 := hq65 ▸ (hB64).size
              try simp only [Act.put, List.getElem_toArray, List.getElem_cons_zero, List.getElem_cons_succ, List.setIfInBounds_toArray, List.set_cons_zero, List.set_cons_succ]
              exact HG V65 q64 q47 q65 q63 ⟨hB65, ⟨(up65 _ _ f64).1, (up65 _ _ (up64 _ _ (up63 _ _ f47).1).1).1, (fun e => (up64 _ _ (up63 _ _ f47).1).2 e.symm)⟩, f65, ⟨(up65 _ _ (up64 _ _ f63).1).1, lo63⟩, lo64, lo47, lo65⟩
        obtain ⟨V66, q66, hV66, hq66, f66, up66, bl66⟩ := alloc_let V63 (.map #[] 0)
        refine readyZ.cons rfl rfl (run_make (by rfl)) (fun _ => by rw [hV66]; exact HK.out _ (bt hB63 bl66)) ?_ readyZ.nil
        · rw [hV66, hq66]
          have hB66 := bt hB63 bl66
          have lo66 : X.heap.size ≤ q66 := hq66 ▸ (hB63).size
          try simp only [Act.put, List.getElem_toArray, List.getElem_cons_zero, List.getElem_cons_succ, List.setIfInBounds_toArray, List.set_cons_zero, List.set_cons_succ]
          refine anyZ_ready (rs := [3]) (by kernel_rfl) (by simp) ?_
          refine readyZ.call rfl rfl (run_c18 (by rfl) (by rfl) (by simp only [List.map_toArray, List.map_cons, List.map_nil]; rfl)) (HEp.out V66 hB66) ?_ readyZ.nil
          · rintro e V' ⟨rfl, hv⟩
            have hv' := hv.symm
            subst hv'
            refine ⟨_, rfl, fun _ => HK.out _ hB66, ?_⟩
            try simp only [Act.put, List.getElem_toArray, List.getElem_cons_zero, List.getElem_cons_succ, List.setIfInBounds_toArray, List.set_cons_zero, List.set_cons_succ]
            have HSV66 := HK.out V66 hB66
            refine anyZ_take 6 8 (v := .agg #[ptr p, .int .i64 c, .int .i64 s, .int .i64 ep, .map (some q66), .map (some q47)]) rfl (by kernel_rfl) (fun _ _ _ h => h.elim) (Or.inl ⟨by rfl, fun wx hx => run_build67 (by rfl) (by rfl) (by rfl) (by rfl) (by rfl) (by rfl)⟩) HSV66 ?_
            try simp only [Act.put, List.getElem_toArray, List.getElem_cons_zero, List.getElem_cons_succ, List.setIfInBounds_toArray, List.set_cons_zero, List.set_cons_succ]
            refine anyZ_ready (rs := [7]) (by kernel_rfl) (by simp) ?_
            obtain ⟨V67, q67, hV67, hq67, f67, up67, bl67⟩ := alloc_let V66 (.cells #[ptr p, .int .i64 c, .int .i64 s, .int .i64 ep, .map (some q66), .map (some q47)] 67)
            refine readyZ.cons rfl rfl (run_box67 (by rfl) (by rfl)) (fun _ => by rw [hV67]; exact HK.out _ (bt hB66 bl67)) ?_ readyZ.nil
            · rw [hV67, hq67]
              have hB67 := bt hB66 bl67
              have lo67 : X.heap.size ≤ q67 := hq67 ▸ (hB66).size
              try simp only [Act.put, List.getElem_toArray, List.getElem_cons_zero, List.getElem_cons_succ, List.setIfInBounds_toArray, List.set_cons_zero, List.set_cons_succ]
              exact HG V67 q66 q47 q67 q63 ⟨hB67, ⟨(up67 _ _ f66).1, (up67 _ _ (up66 _ _ (up63 _ _ f47).1).1).1, (fun e => (up66 _ _ (up63 _ _ f47).1).2 e.symm)⟩, f67, ⟨(up67 _ _ (up66 _ _ f63).1).1, lo63⟩, lo66, lo47, lo67⟩
    obtain ⟨V68, q68, hV68, hq68, f68, up68, bl68⟩ := alloc_let V0 (.cells #[.pointer none] 34)
    refine readyZ.cons rfl rfl (run_alloc34 (by rfl)) (fun _ => by rw [hV68]; exact HK.out _ (bt b0 bl68)) ?_ readyZ.nil
    · rw [hV68, hq68]
      have hB68 := bt b0 bl68
      have lo68 : X.heap.size ≤ q68 := hq68 ▸ (b0).size
      try simp only [Act.put, List.getElem_toArray, List.getElem_cons_zero, List.getElem_cons_succ, List.setIfInBounds_toArray, List.set_cons_zero, List.set_cons_succ]
      refine anyZ_ready (rs := [3, 4, 5]) (by kernel_rfl) (by simp) ?_
      refine readyZ.call rfl rfl (run_c18 (by rfl) (by rfl) (by simp only [List.map_toArray, List.map_cons, List.map_nil]; rfl)) (HEp.out V68 hB68) ?_ ?_
      · rintro e V' ⟨rfl, hv⟩
        have hv' := hv.symm
        subst hv'
        refine ⟨_, rfl, fun _ => HK.out _ hB68, ?_⟩
        try simp only [Act.put, List.getElem_toArray, List.getElem_cons_zero, List.getElem_cons_succ, List.setIfInBounds_toArray, List.set_cons_zero, List.set_cons_succ]
        refine anyZ_ready (rs := [4, 5]) (by kernel_rfl) (by simp) ?_
        obtain ⟨V69, q69, hV69, hq69, f69, up69, bl69⟩ := alloc_let V68 (.map #[] 0)
        refine readyZ.cons rfl rfl (run_make (by rfl)) (fun _ => by rw [hV69]; exact HK.out _ (bt hB68 bl69)) ?_ ?_
        · rw [hV69, hq69]
          have hB69 := bt hB68 bl69
          have lo69 : X.heap.size ≤ q69 := hq69 ▸ (hB68).size
          try simp only [Act.put, List.getElem_toArray, List.getElem_cons_zero, List.getElem_cons_succ, List.setIfInBounds_toArray, List.set_cons_zero, List.set_cons_succ]
          refine anyZ_ready (rs := [5]) (by kernel_rfl) (by simp) ?_
          obtain ⟨V70, q70, hV70, hq70, f70, up70, bl70⟩ := alloc_let V69 (.map #[] 0)
          refine readyZ.cons rfl rfl (run_make (by rfl)) (fun _ => by rw [hV70]; exact HK.out _ (bt hB69 bl70)) ?_ readyZ.nil
          · rw [hV70, hq70]
            have hB70 := bt hB69 bl70
            have lo70 : X.heap.size ≤ q70 := hq70 ▸ (hB69).size
            try simp only [Act.put, List.getElem_toArray, List.getElem_cons_zero, List.getElem_cons_succ, List.setIfInBounds_toArray, List.set_cons_zero, List.set_cons_succ]
            have HSV70 := HK.out V70 hB70
            refine anyZ_take 6 8 (v := .agg #[ptr p, .int .i64 c, .int .i64 s, .int .i64 ep, .map (some q69), .map (some q70)]) rfl (by kernel_rfl) (fun _ _ _ h => h.elim) (Or.inl ⟨by rfl, fun wx hx => run_build67 (by rfl) (by rfl) (by rfl) (by rfl) (by rfl) (by rfl)⟩) HSV70 ?_
            try simp only [Act.put, List.getElem_toArray, List.getElem_cons_zero, List.getElem_cons_succ, List.setIfInBounds_toArray, List.set_cons_zero, List.set_cons_succ]
            refine anyZ_ready (rs := [7]) (by kernel_rfl) (by simp) ?_
            obtain ⟨V71, q71, hV71, hq71, f71, up71, bl71⟩ := alloc_let V70 (.cells #[ptr p, .int .i64 c, .int .i64 s, .int .i64 ep, .map (some q69), .map (some q70)] 67)
            refine readyZ.cons rfl rfl (run_box67 (by rfl) (by rfl)) (fun _ => by rw [hV71]; exact HK.out _ (bt hB70 bl71)) ?_ readyZ.nil
            · rw [hV71, hq71]
              have hB71 := bt hB70 bl71
              have lo71 : X.heap.size ≤ q71 := hq71 ▸ (hB70).size
              try simp only [Act.put, List.getElem_toArray, List.getElem_cons_zero, List.getElem_cons_succ, List.setIfInBounds_toArray, List.set_cons_zero, List.set_cons_succ]
              exact HG V71 q69 q70 q71 q68 ⟨hB71, ⟨(up71 _ _ (up70 _ _ f69).1).1, (up71 _ _ f70).1, (up70 _ _ f69).2⟩, f71, ⟨(up71 _ _ (up70 _ _ (up69 _ _ f68).1).1).1, lo68⟩, lo69, lo70, lo71⟩
        obtain ⟨V72, q72, hV72, hq72, f72, up72, bl72⟩ := alloc_let V68 (.map #[] 0)
        refine readyZ.cons rfl rfl (run_make (by rfl)) (fun _ => by rw [hV72]; exact HK.out _ (bt hB68 bl72)) ?_ readyZ.nil
        · rw [hV72, hq72]
          have hB72 := bt hB68 bl72
          have lo72 : X.heap.size ≤ q72 := hq72 ▸ (hB68).size
          try simp only [Act.put, List.getElem_toArray, List.getElem_cons_zero, List.getElem_cons_succ, List.setIfInBounds_toArray, List.set_cons_zero, List.set_cons_succ]
          refine anyZ_ready (rs := [4]) (by kernel_rfl) (by simp) ?_
          obtain ⟨V73, q73, hV73, hq73, f73, up73, bl73⟩ := alloc_let V72 (.map #[] 0)
          refine readyZ.cons rfl rfl (run_make (by rfl)) (fun _ => by rw [hV73]; exact HK.out _ (bt hB72 bl73)) ?_ readyZ.nil
          · rw [hV73, hq73]
            have hB73 := bt hB72 bl73
            have lo73 : X.heap.size ≤ q73 := hq73 ▸ (hB72).size
            try simp only [Act.put, List.getElem_toArray, List.getElem_cons_zero, List.getElem_cons_succ, List.setIfInBounds_toArray, List.set_cons_zero, List.set_cons_succ]
            have HSV73 := HK.out V73 hB73
            refine anyZ_take 6 8 (v := .agg #[ptr p, .int .i64 c, .int .i64 s, .int .i64 ep, .map (some q73), .map (some q72)]) rfl (by kernel_rfl) (fun _ _ _ h => h.elim) (Or.inl ⟨by rfl, fun wx hx => run_build67 (by rfl) (by rfl) (by rfl) (by rfl) (by rfl) (by rfl)⟩) HSV73 ?_
            try simp only [Act.put, List.getElem_toArray, List.getElem_cons_zero, List.getElem_cons_succ, List.setIfInBounds_toArray, List.set_cons_zero, List.set_cons_succ]
            refine anyZ_ready (rs := [7]) (by kernel_rfl) (by simp) ?_
            obtain ⟨V74, q74, hV74, hq74, f74, up74, bl74⟩ := alloc_let V73 (.cells #[ptr p, .int .i64 c, .int .i64 s, .int .i64 ep, .map (some q73), .map (some q72)] 67)
            refine readyZ.cons rfl rfl (run_box67 (by rfl) (by rfl)) (fun _ => by rw [hV74]; exact HK.out _ (bt hB73 bl74)) ?_ readyZ.nil
            · rw [hV74, hq74]
              have hB74 := bt hB73 bl74
              have lo74 : X.heap.size ≤ q74 := hq74 ▸ (hB73).size
              try simp only [Act.put, List.getElem_toArray, List.getElem_cons_zero, List.getElem_cons_succ, List.setIfInBounds_toArray, List.set_cons_zero, List.set_cons_succ]
              exact HG V74 q73 q72 q74 q68 ⟨hB74, ⟨(up74 _ _ f73).1, (up74 _ _ (up73 _ _ f72).1).1, (fun e => (up73 _ _ f72).2 e.symm)⟩, f74, ⟨(up74 _ _ (up73 _ _ (up72 _ _ f68).1).1).1, lo68⟩, lo73, lo72, lo74⟩
      obtain ⟨V75, q75, hV75, hq75, f75, up75, bl75⟩ := alloc_let V68 (.map #[] 0)
      refine readyZ.cons rfl rfl (run_make (by rfl)) (fun _ => by rw [hV75]; exact HK.out _ (bt hB68 bl75)) ?_ ?_
      · rw [hV75, hq75]
        have hB75 := bt hB68 bl75
        have lo75 : X.heap.size ≤ q75 := hq75 ▸ (hB68).size
        try simp only [Act.put, List.getElem_toArray, List.getElem_cons_zero, List.getElem_cons_succ, List.setIfInBounds_toArray, List.set_cons_zero, List.set_cons_succ]
        refine anyZ_ready (rs := [3, 5]) (by kernel_rfl) (by simp) ?_
        refine readyZ.call rfl rfl (run_c18 (by rfl) (by rfl) (by simp only [List.map_toArray, List.map_cons, List.map_nil]; rfl)) (HEp.out V75 hB75) ?_ ?_
        · rintro e V' ⟨rfl, hv⟩
          have hv' := hv.symm
          subst hv'
          refine ⟨_, rfl, fun _ => HK.out _ hB75, ?_⟩
          try simp only [Act.put, List.getElem_toArray, List.getElem_cons_zero, List.getElem_cons_succ, List.setIfInBounds_toArray, List.set_cons_zero, List.set_cons_succ]
          refine anyZ_ready (rs := [5]) (by kernel_rfl) (by simp) ?_
          obtain ⟨V76, q76, hV76, hq76, f76, up76, bl76⟩ := alloc_let V75 (.map #[] 0)
          refine readyZ.cons rfl rfl (run_make (by rfl)) (fun _ => by rw [hV76]; exact HK.out _ (bt hB75 bl76)) ?_ readyZ.nil
          · rw [hV76, hq76]
            have hB76 := bt hB75 bl76
            have lo76 : X.heap.size ≤ q76 := hq76 ▸ (hB75).size
            try simp only [Act.put, List.getElem_toArray, List.getElem_cons_zero, List.getElem_cons_succ, List.setIfInBounds_toArray, List.set_cons_zero, List.set_cons_succ]
            have HSV76 := HK.out V76 hB76
            refine anyZ_take 6 8 (v := .agg #[ptr p, .int .i64 c, .int .i64 s, .int .i64 ep, .map (some q75), .map (some q76)]) rfl (by kernel_rfl) (fun _ _ _ h => h.elim) (Or.inl ⟨by rfl, fun wx hx => run_build67 (by rfl) (by rfl) (by rfl) (by rfl) (by rfl) (by rfl)⟩) HSV76 ?_
            try simp only [Act.put, List.getElem_toArray, List.getElem_cons_zero, List.getElem_cons_succ, List.setIfInBounds_toArray, List.set_cons_zero, List.set_cons_succ]
            refine anyZ_ready (rs := [7]) (by kernel_rfl) (by simp) ?_
            obtain ⟨V77, q77, hV77, hq77, f77, up77, bl77⟩ := alloc_let V76 (.cells #[ptr p, .int .i64 c, .int .i64 s, .int .i64 ep, .map (some q75), .map (some q76)] 67)
            refine readyZ.cons rfl rfl (run_box67 (by rfl) (by rfl)) (fun _ => by rw [hV77]; exact HK.out _ (bt hB76 bl77)) ?_ readyZ.nil
            · rw [hV77, hq77]
              have hB77 := bt hB76 bl77
              have lo77 : X.heap.size ≤ q77 := hq77 ▸ (hB76).size
              try simp only [Act.put, List.getElem_toArray, List.getElem_cons_zero, List.getElem_cons_succ, List.setIfInBounds_toArray, List.set_cons_zero, List.set_cons_succ]
              exact HG V77 q75 q76 q77 q68 ⟨hB77, ⟨(up77 _ _ (up76 _ _ f75).1).1, (up77 _ _ f76).1, (up76 _ _ f75).2⟩, f77, ⟨(up77 _ _ (up76 _ _ (up75 _ _ f68).1).1).1, lo68⟩, lo75, lo76, lo77⟩
        obtain ⟨V78, q78, hV78, hq78, f78, up78, bl78⟩ := alloc_let V75 (.map #[] 0)
        refine readyZ.cons rfl rfl (run_make (by rfl)) (fun _ => by rw [hV78]; exact HK.out _ (bt hB75 bl78)) ?_ readyZ.nil
        · rw [hV78, hq78]
          have hB78 := bt hB75 bl78
          have lo78 : X.heap.size ≤ q78 := hq78 ▸ (hB75).size
          try simp only [Act.put, List.getElem_toArray, List.getElem_cons_zero, List.getElem_cons_succ, List.setIfInBounds_toArray, List.set_cons_zero, List.set_cons_succ]
          refine anyZ_ready (rs := [3]) (by kernel_rfl) (by simp) ?_
          refine readyZ.call rfl rfl (run_c18 (by rfl) (by rfl) (by simp only [List.map_toArray, List.map_cons, List.map_nil]; rfl)) (HEp.out V78 hB78) ?_ readyZ.nil
          · rintro e V' ⟨rfl, hv⟩
            have hv' := hv.symm
            subst hv'
            refine ⟨_, rfl, fun _ => HK.out _ hB78, ?_⟩
            try simp only [Act.put, List.getElem_toArray, List.getElem_cons_zero, List.getElem_cons_succ, List.setIfInBounds_toArray, List.set_cons_zero, List.set_cons_succ]
            have HSV78 := HK.out V78 hB78
            refine anyZ_take 6 8 (v := .agg #[ptr p, .int .i64 c, .int .i64 s, .int .i64 ep, .map (some q75), .map (some q78)]) rfl (by kernel_rfl) (fun _ _ _ h => h.elim) (Or.inl ⟨by rfl, fun wx hx => run_build67 (by rfl) (by rfl) (by rfl) (by rfl) (by rfl) (by rfl)⟩) HSV78 ?_
            try simp only [Act.put, List.getElem_toArray, List.getElem_cons_zero, List.getElem_cons_succ, List.setIfInBounds_toArray, List.set_cons_zero, List.set_cons_succ]
            refine anyZ_ready (rs := [7]) (by kernel_rfl) (by simp) ?_
            obtain ⟨V79, q79, hV79, hq79, f79, up79, bl79⟩ := alloc_let V78 (.cells #[ptr p, .int .i64 c, .int .i64 s, .int .i64 ep, .map (some q75), .map (some q78)] 67)
            refine readyZ.cons rfl rfl (run_box67 (by rfl) (by rfl)) (fun _ => by rw [hV79]; exact HK.out _ (bt hB78 bl79)) ?_ readyZ.nil
            · rw [hV79, hq79]
              have hB79 := bt hB78 bl79
              have lo79 : X.heap.size ≤ q79 := hq79 ▸ (hB78).size
              try simp only [Act.put, List.getElem_toArray, List.getElem_cons_zero, List.getElem_cons_succ, List.setIfInBounds_toArray, List.set_cons_zero, List.set_cons_succ]
              exact HG V79 q75 q78 q79 q68 ⟨hB79, ⟨(up79 _ _ (up78 _ _ f75).1).1, (up79 _ _ f78).1, (up78 _ _ f75).2⟩, f79, ⟨(up79 _ _ (up78 _ _ (up75 _ _ f68).1).1).1, lo68⟩, lo75, lo78, lo79⟩
      obtain ⟨V80, q80, hV80, hq80, f80, up80, bl80⟩ := alloc_let V68 (.map #[] 0)
      refine readyZ.cons rfl rfl (run_make (by rfl)) (fun _ => by rw [hV80]; exact HK.out _ (bt hB68 bl80)) ?_ readyZ.nil
      · rw [hV80, hq80]
        have hB80 := bt hB68 bl80
        have lo80 : X.heap.size ≤ q80 := hq80 ▸ (hB68).size
        try simp only [Act.put, List.getElem_toArray, List.getElem_cons_zero, List.getElem_cons_succ, List.setIfInBounds_toArray, List.set_cons_zero, List.set_cons_succ]
        refine anyZ_ready (rs := [3, 4]) (by kernel_rfl) (by simp) ?_
        refine readyZ.call rfl rfl (run_c18 (by rfl) (by rfl) (by simp only [List.map_toArray, List.map_cons, List.map_nil]; rfl)) (HEp.out V80 hB80) ?_ ?_
        · rintro e V' ⟨rfl, hv⟩
          have hv' := hv.symm
          subst hv'
          refine ⟨_, rfl, fun _ => HK.out _ hB80, ?_⟩
          try simp only [Act.put, List.getElem_toArray, List.getElem_cons_zero, List.getElem_cons_succ, List.setIfInBounds_toArray, List.set_cons_zero, List.set_cons_succ]
          refine anyZ_ready (rs := [4]) (by kernel_rfl) (by simp) ?_
          obtain ⟨V81, q81, hV81, hq81, f81, up81, bl81⟩ := alloc_let V80 (.map #[] 0)
          refine readyZ.cons rfl rfl (run_make (by rfl)) (fun _ => by rw [hV81]; exact HK.out _ (bt hB80 bl81)) ?_ readyZ.nil
          · rw [hV81, hq81]
            have hB81 := bt hB80 bl81
            have lo81 : X.heap.size ≤ q81 := hq81 ▸ (hB80).size
            try simp only [Act.put, List.getElem_toArray, List.getElem_cons_zero, List.getElem_cons_succ, List.setIfInBounds_toArray, List.set_cons_zero, List.set_cons_succ]
            have HSV81 := HK.out V81 hB81
            refine anyZ_take 6 8 (v := .agg #[ptr p, .int .i64 c, .int .i64 s, .int .i64 ep, .map (some q81), .map (some q80)]) rfl (by kernel_rfl) (fun _ _ _ h => h.elim) (Or.inl ⟨by rfl, fun wx hx => run_build67 (by rfl) (by rfl) (by rfl) (by rfl) (by rfl) (by rfl)⟩) HSV81 ?_
            try simp only [Act.put, List.getElem_toArray, List.getElem_cons_zero, List.getElem_cons_succ, List.setIfInBounds_toArray, List.set_cons_zero, List.set_cons_succ]
            refine anyZ_ready (rs := [7]) (by kernel_rfl) (by simp) ?_
            obtain ⟨V82, q82, hV82, hq82, f82, up82, bl82⟩ := alloc_let V81 (.cells #[ptr p, .int .i64 c, .int .i64 s, .int .i64 ep, .map (some q81), .map (some q80)] 67)
            refine readyZ.cons rfl rfl (run_box67 (by rfl) (by rfl)) (fun _ => by rw [hV82]; exact HK.out _ (bt hB81 bl82)) ?_ readyZ.nil
            · rw [hV82, hq82]
              have hB82 := bt hB81 bl82
              have lo82 : X.heap.size ≤ q82 := hq82 ▸ (hB81).size
              try simp only [Act.put, List.getElem_toArray, List.getElem_cons_zero, List.getElem_cons_succ, List.setIfInBounds_toArray, List.set_cons_zero, List.set_cons_succ]
              exact HG V82 q81 q80 q82 q68 ⟨hB82, ⟨(up82 _ _ f81).1, (up82 _ _ (up81 _ _ f80).1).1, (fun e => (up81 _ _ f80).2 e.symm)⟩, f82, ⟨(up82 _ _ (up81 _ _ (up80 _ _ f68).1).1).1, lo68⟩, lo81, lo80, lo82⟩
        obtain ⟨V83, q83, hV83, hq83, f83, up83, bl83⟩ := alloc_let V80 (.map #[] 0)
        refine readyZ.cons rfl rfl (run_make (by rfl)) (fun _ => by rw [hV83]; exact HK.out _ (bt hB80 bl83)) ?_ readyZ.nil
        · rw [hV83, hq83]
          have hB83 := bt hB80 bl83
          have lo83 : X.heap.size ≤ q83 := hq83 ▸ (hB80).size
          try simp only [Act.put, List.getElem_toArray, List.getElem_cons_zero, List.getElem_cons_succ, List.setIfInBounds_toArray, List.set_cons_zero, List.set_cons_succ]
          refine anyZ_ready (rs := [3]) (by kernel_rfl) (by simp) ?_
          refine readyZ.call rfl rfl (run_c18 (by rfl) (by rfl) (by simp only [List.map_toArray, List.map_cons, List.map_nil]; rfl)) (HEp.out V83 hB83) ?_ readyZ.nil
          · rintro e V' ⟨rfl, hv⟩
            have hv' := hv.symm
            subst hv'
            refine ⟨_, rfl, fun _ => HK.out _ hB83, ?_⟩
            try simp only [Act.put, List.getElem_toArray, List.getElem_cons_zero, List.getElem_cons_succ, List.setIfInBounds_toArray, List.set_cons_zero, List.set_cons_succ]
            have HSV83 := HK.out V83 hB83
            refine anyZ_take 6 8 (v := .agg #[ptr p, .int .i64 c, .int .i64 s, .int .i64 ep, .map (some q83), .map (some q80)]) rfl (by kernel_rfl) (fun _ _ _ h => h.elim) (Or.inl ⟨by rfl, fun wx hx => run_build67 (by rfl) (by rfl) (by rfl) (by rfl) (by rfl) (by rfl)⟩) HSV83 ?_
            try simp only [Act.put, List.getElem_toArray, List.getElem_cons_zero, List.getElem_cons_succ, List.setIfInBounds_toArray, List.set_cons_zero, List.set_cons_succ]
            refine anyZ_ready (rs := [7]) (by kernel_rfl) (by simp) ?_
            obtain ⟨V84, q84, hV84, hq84, f84, up84, bl84⟩ := alloc_let V83 (.cells #[ptr p, .int .i64 c, .int .i64 s, .int .i64 ep, .map (some q83), .map (some q80)] 67)
            refine readyZ.cons rfl rfl (run_box67 (by rfl) (by rfl)) (fun _ => by rw [hV84]; exact HK.out _ (bt hB83 bl84)) ?_ readyZ.nil
            · rw [hV84, hq84]
              have hB84 := bt hB83 bl84
              have lo84 : X.heap.size ≤ q84 := hq84 ▸ (hB83).size
              try simp only [Act.put, List.getElem_toArray, List.getElem_cons_zero, List.getElem_cons_succ, List.setIfInBounds_toArray, List.set_cons_zero, List.set_cons_succ]
              exact HG V84 q83 q80 q84 q68 ⟨hB84, ⟨(up84 _ _ f83).1, (up84 _ _ (up83 _ _ f80).1).1, (fun e => (up83 _ _ f80).2 e.symm)⟩, f84, ⟨(up84 _ _ (up83 _ _ (up80 _ _ f68).1).1).1, lo68⟩, lo83, lo80, lo84⟩
  case then2 =>
    rintro V wb eb gb h8 ⟨bV, ⟨oW, oE, hne⟩, oG, ⟨o8, lg8⟩, lw, le, lg⟩
    clear HS b0 HEp V0
    obtain ⟨Z, hZ⟩ : ∃ Z, V.setCell ⟨h8, 0, none⟩ (ptr gb) = Z := ⟨_, rfl⟩
    have b8 : Boxed Z h8 34 (ptr gb) := hZ ▸ (show Boxed V h8 34 (.pointer none) from o8).set _
    have TZ : Turns (fun j => j = h8) V Z := hZ ▸ Turns.set (S := fun j => j = h8) V (p := ⟨h8, 0, none⟩) rfl _
    refine anyZ_ready (rs := [9]) (by kernel_rfl) (by simp) ?_
    refine readyZ.skip rfl rfl (run_put34 (by rfl) (by rfl) (by rfl) o8) (fun h => absurd (by decide) h) ?_ readyZ.nil
    rw [hZ]
    try simp only [Act.put, List.getElem_toArray, List.getElem_cons_zero, List.getElem_cons_succ, List.setIfInBounds_toArray, List.set_cons_zero, List.set_cons_succ]
    refine anyZ_done (by kernel_rfl) ?_ _
    dsimp only [Only, Exit.then]
    have hnm : ∀ {k : Nat} {es : Array MapEntry} {cl : Nat}, V.heap[k]? = some (.map es cl) → k ≠ h8 := fun hk e => by rw [e, o8] at hk; cases hk
    have oGZ : Z.heap[gb]? = some (.cells #[ptr p, .int .i64 c, .int .i64 s, .int .i64 ep, .map (some wb), .map (some eb)] 67 (0, 0)) := TZ.same (fun e => by rw [e, o8] at oG; cases oG) oG
    have oWZ := TZ.same (hnm oW) oW
    have oEZ := TZ.same (hnm oE) oE
    have bZ : Below X.heap.size X Z := bV.trans (TZ.below (fun k e => by
      subst e
      exact lg8) bV.size)
    obtain ⟨hE, hS, hW, hH⟩ := HE.out
    have BZ := bt HB.out bZ
    obtain ⟨bm, h6, hbm, hpl⟩ := hE.six
    have h6Z : Z.cell? ⟨p, 6, none⟩ = some (.map (some bm)) := (BZ.cell (p := ⟨p, 6, none⟩) hpl).trans h6
    have hXs := HB.out.size
    have g0 : GS Z gb p c s ep wb eb [] (fun _ => []) [] (fun _ => []) := ⟨oGZ, hne, ⟨by rw [h6Z]; intro e; simp at e; omega, by rw [h6Z]; intro e; simp at e; omega⟩, ⟨_, MapS.empty isS_nil oWZ, fun x y => Rw.nil _ _ _ _⟩, _, MapS.empty isS_nil oEZ, fun x y => Rw.nil _ _ _ _⟩
    have lwZ := (Array.getElem?_eq_some_iff.1 oWZ).1
    have leZ := (Array.getElem?_eq_some_iff.1 oEZ).1
    have Hg := hide (And.intro g0 (And.intro BZ (And.intro b8 (And.intro (And.intro lw (And.intro le lg)) (And.intro lwZ (And.intro leZ hXs))))))
    clear g0 BZ b8 lw le lg lwZ leZ hXs bZ bV oW oE oG o8 oGZ oWZ oEZ hnm TZ hZ h6 h6Z hbm hpl hE hS hW hH hne lg8
    gi_wp2_with fail
    refine ⟨trivial, ?_⟩
    refine (callsIn_wide.2 (call_any p Z)).mono ?_
    rintro e X0 ⟨rfl, hX0⟩
    have BX : Below Z.heap.size Z X0 := by rw [hX0]; exact box1 _ _
    have PX : Boxed X0 Z.heap.size 29 (ptr p) := by rw [hX0]; exact Boxed.new Z 29 _
    obtain ⟨g0, BZ, b8, ⟨lw, le, lg⟩, lwZ, leZ, hXs⟩ := Hg.out
    obtain ⟨hE, hS, hW, hH⟩ := HE.out
    obtain ⟨bm, -, -, hpl⟩ := (hE.upto BZ).six
    have I0 : NwI w X0 p c s ep gb wb eb h8 W H tl f X0.heap.size [] := ⟨bt BZ BX, boxed_upto b8 BX b8.lt, ⟨by omega, by omega, by have := BX.size; omega, by have := BX.size; omega⟩, Nat.le_refl _, [], _, [], _, g0.upto BX hpl, GD.none.mono (fun k hk => by simp at hk), Nat.le_refl _, Nat.le_refl _, fun k hk => by simp at hk⟩
    have hBw : w.heap.size ≤ X0.heap.size := (bt BZ BX).size
    have hseq := call_seq (10 - 1) p Z.heap.size W H tl f X0 (by omega) PX ((hE.upto BZ).upto BX).1
    have HI0 := hide I0
    have Hlen := hide (allK_len hW hH)
    clear hX0 BX PX g0 BZ b8 lwZ leZ hpl I0 hE hS hW hH
    gi_wp2_with fail
    refine range_nest (n := 10) (by omega) (gf := 55) (lb := #[ptr Z.heap.size]) rfl (enters_of Tryz.func55 (by kernel_rfl) rfl)
      hseq (fun _ _ => trivial) (fun _ _ _ _ _ _ _ _ => trivial) (Below.refl _ _) (fun _ => rfl)
      (fun pre Y => NwI w Y p c s ep gb wb eb h8 W H tl f X0.heap.size pre)
      (fun pre X => False)
      (fun pre Y' Y2 row hs hg hr => hs.turned HE.out.1 (S := fun k => row = some k) (Turns.of_grown hg (fun k e => e)) (fun k e => (hr k e).1) hBw (fun k o e ho => by
        obtain ⟨-, o', ho', hn⟩ := hr k e
        rw [ho] at ho'
        cases ho'
        exact hn))
      (fun _ _ _ _ h _ _ => h)
      HI0.out
      (fun q a' Y => ∃ Bx, X0.heap.size ≤ Bx ∧ TwB Y Bx q.1.1 q.1.2 ∧ a' = { tmps := #[ptr p, shv c s, undef, ptr w.heap.size, .pointer none, .int .i64 0, ptr h8, ptr Bx, ptr p, rct 0 0 W H, .bool true, .bool false, .bool false, shv c s, .bool true, .bool false, .bool false, ptr p, shv c s, ptr p, .int .i64 ep, .map (some wb), .map (some eb), .agg #[ptr p, .int .i64 c, .int .i64 s, .int .i64 ep, .map (some wb), .map (some eb)], ptr gb, ptr p, .func (.func 55) #[] #[ptr Z.heap.size], cel q.1.1 q.1.2, undef, undef, undef, undef], defers := [] })
      (fun q a' _ Y Y2 row hs hg hr => by obtain ⟨Bx, e1, e2, e3⟩ := hs; exact ⟨Bx, e1, cells_own (β := Unit) X0.heap.size Bx _ _ () Y Y2 row e2 hg hr, e3⟩)
      ?assign ?body ?done ?stop
    case assign =>
      rintro lo pre q Y K hI hK
      have hz := hI.sz
      have hI2 := hI.upto HE.out.1 (box1 Y (.cells #[.int .i64 q.1.1, .int .i64 q.1.2] 47)) hBw
      have HI2 := hide hI2
      clear hI hI2
      gi_wp2
      exact hK _ _ (Keep.of_below (box1 _ _)) trivial HI2.out ⟨Y.heap.size, hz, heap_alloc_new Y _, rfl⟩
    case body =>
      rintro lo pre q a' Y hlo hI ⟨Bx, hBx, bX, rfl⟩ hlt
      obtain ⟨⟨qx, qy⟩, hqw⟩ := q
      simp only at bX ⊢
      obtain ⟨hE, hS, hW, hH⟩ := HE.out
      obtain ⟨KW, LW, KE, LE, g1, g2, g3, g4, g5⟩ := hI.gs
      have HR := hide (reckon_is g1 (hE.upto hI.bel) hS qx qy hqw.1 hqw.2 (g2.w64 hW hH _) (by have := g2.fl (qx, qy); omega) (by omega) (by omega))
      have c6 := hI.bx.cell
      obtain ⟨c7, c8⟩ := bX.c
      have HI := hide (And.intro hI (And.intro g1 (And.intro g2 (And.intro g3 (And.intro g4 g5)))))
      clear hI g1 g2 g3 g4 g5 hE hS hW hH bX hseq HI0
      gi_wp2_with fail
      refine ⟨trivial, ?_⟩
      refine (callsIn_wide.2 HR.out).mono ?_
      rintro e Y2 ⟨rfl, NL, KW', KE', LE', r1, r2, r3, r4, r5, r6, r7, ⟨r8, r8b⟩, r9, rT⟩
      obtain ⟨hI, g1, g2, g3, g4, g5⟩ := HI.out
      obtain ⟨hE, hS, hW, hH⟩ := HE.out
      have hN : NwI w Y2 p c s ep gb wb eb h8 W H tl f X0.heap.size (pre ++ [⟨(qx, qy), hqw⟩]) := by
        have hm : ∀ k : Int × Int, k ∈ (pre ++ [(⟨(qx, qy), hqw⟩ : Cel)]).map (·.1) ↔ k ∈ pre.map (·.1) ∨ k = (qx, qy) := fun k => by rw [List.map_append, List.mem_append]; simp
        refine ⟨hI.bel.trans (rT.below (fun k e => by have := hI.lo; rcases e with rfl | rfl <;> omega) hI.bel.size), boxed_kept hI.bx rT (fun e => e.elim (not_map g1.wblk hI.bx) (not_map g1.eblk hI.bx)), hI.lo, Nat.le_trans hI.sz rT.size, KW', _, KE', LE', r3, ?_, by rw [List.length_append, List.length_singleton]; omega, by rw [List.length_append, List.length_singleton]; omega, fun k hk => (hm k).2 ((r8b k hk).imp (g5 k) id)⟩
        exact (g2.step (k := (qx, qy)) hW hH hS r1 r2 r4 r5 r6 r7).mono (fun k hk => (hm k).1 hk)
      have hKp : Keep X0.heap.size Y Y2 := keep_turns rT (fun k _ e => by have := hI.lo; rcases e with rfl | rfl <;> omega)
      have HF := hide (And.intro hKp hN)
      clear hI g1 g2 g3 g4 g5 hE hS hW hH r1 r2 r3 r4 r5 r6 r7 r8 r8b r9 rT hN hKp c6 c7 c8 HR
      gi_wp2_with fail
      exact ⟨HF.out.1, trivial, HF.out.2⟩
    case done =>
      rintro D xs Y hD rfl hI hK
      have c6 := hI.bx.cell
      have HI := hide hI
      clear hI hseq HI0
      gi_wp2_with fail
      refine ⟨by simp, .inl ⟨_, _, rfl, run_takeDeferred hK, ?_⟩⟩
      obtain ⟨hE, hS, hW, hH⟩ := HE.out
      have tp : Turns (fun k => k = D) Y (Y.putObj D (.deferred none)) := turns_putC _ _ _ rfl
      have hI' := HI.out.turned hE tp (fun k e => by omega) hBw (fun k o e ho => by subst e; rw [hK] at ho; cases ho; rfl)
      obtain ⟨KW, LW, KE, LE, g1, g2, g3, g4, g5⟩ := hI'.gs
      refine ⟨.tuple #[ptr gb, .int .i64 0], by simp [results, Tryz.f10, go_sem], gb, wb, eb, rfl, ⟨KW, LW, KE, LE, g1, g2.mono (fun k hk => (mem_allK hW hH k).2 hk), fun k hk => (mem_allK hW hH k).1 (g5 k hk)⟩, hI'.bel, ?_, hI'.lo.1, hI'.lo.2.1⟩
      omega
    case stop => exact fun D pre Y hD hp h hK => h.elim
end Go.Proofs.YthiafmlgialbnaaGreatDoor
