/-
  reach: cells are gone on from till all cheapest ways to one are known, or there is none, or the budget is spent. way: the cells of a cheapest way, from its beginning on.
-/
import Derived.Test.YtggaobcdogbjhaaGreatDoorGoAll
namespace Go.Proofs.YtggaobcdogbjhaaGreatDoor
open Go.RowKit Go.Shelf
set_option linter.unusedVariables false
set_option linter.unusedSimpArgs false
attribute [local go_sem] Oper.semAt_some
/-- What nearest may take out of S, and what it leaves. -/
def Nx (ix iy iw : Int) (C : List Int) (S : List It) (tx ty tc tf : Int) (ok : Bool) (R : List It) : Prop :=
  ∃ xs, Drn S xs R ∧ ((ok = false ∧ R = [] ∧ ∀ u ∈ xs, hit ix iy iw C u = false) ∨ (ok = true ∧ ∃ pre t, xs = pre ++ [t] ∧ (∀ u ∈ pre, hit ix iy iw C u = false) ∧ hit ix iy iw C t = true ∧ t.x = tx ∧ t.y = ty ∧ t.c = tc ∧ t.f = tf))
/-- The way that was found to the goal is cheaper than what goes by this cell. -/
def Stp (ix iy iw gx gy : Int) (C : List Int) (tf : Int) : Prop := ∃ m, C[ij ix iy iw gx gy]? = some m ∧ m ≠ -1 ∧ m < tf
theorem nearest_g (w0 : World) (k p : Nat) (c s ix iy iw ih : Int) (gv cv : Value) (b : Nat) (lf : Value) (G : List Nat) (C : List Int) (hv : Value) (n : Int) (S : List It) (w : World) (h : Sch w0 w k p c s ix iy iw ih gv cv b lf G C hv n S) (hC : C.length = (ih * iw).toNat) (hS : InR ix iy iw ih S) (hi : 0 ≤ ix ∧ 0 ≤ iy ∧ ix + iw ≤ 1048576 ∧ iy + ih ≤ 1048576) (hpos : 0 < iw ∧ 0 < ih) (hlen : S.length ≤ 1152921504606846976) :
    Calls Tryz.prog 48 #[ptr k] w fun e w' => ∃ tx ty tc tf ok R hv', e = .returned (.tuple #[rv tx ty tc tf, .bool ok]) ∧ Nx ix iy iw C S tx ty tc tf ok R ∧ Sch w0 w' k p c s ix iy iw ih gv cv b lf G C hv' n R ∧ (∀ j, hv'.ownBlock = some j → hv.ownBlock = some j) ∧ Turns (Own gv cv b hv) w w' := by
  refine (nearest_is w0 k p c s ix iy iw ih gv cv b lf G C hv n S w h hC hS hi hpos hlen).mono ?_
  rintro e w' ⟨xs, R, hv', h1, h2, h3, h4, ⟨rfl, h5, h6⟩ | ⟨pre, t, rfl, h5, h6, h7⟩⟩
  · exact ⟨_, _, _, _, _, R, hv', rfl, ⟨xs, h1, .inl ⟨rfl, h5, h6⟩⟩, h2, h3, h4⟩
  · exact ⟨_, _, _, _, _, R, hv', rfl, ⟨xs, h1, .inr ⟨rfl, pre, t, h5, h6, h7, rfl, rfl, rfl, rfl⟩⟩, h2, h3, h4⟩
theorem Nx.mem {ix iy iw : Int} {C : List Int} {S R : List It} {tx ty tc tf : Int} (h : Nx ix iy iw C S tx ty tc tf true R) : ∃ t ∈ S, t.x = tx ∧ t.y = ty ∧ t.c = tc ∧ t.f = tf := by
  obtain ⟨xs, h1, ⟨q, _⟩ | ⟨_, pre, t, rfl, _, _, h2⟩⟩ := h
  · cases q
  · exact ⟨t, h1.mem t (.inl (by simp)), h2⟩
theorem Nx.len {ix iy iw : Int} {C : List Int} {S R : List It} {tx ty tc tf : Int} {ok : Bool} (h : Nx ix iy iw C S tx ty tc tf ok R) : R.length ≤ S.length := by
  obtain ⟨xs, h1, _⟩ := h
  have := h1.len
  omega
theorem four_put (w : World) (u v a b : Int) : ∃ Y, w.alloc (.cells #[.int .i64 u, .int .i64 v, .int .i64 a, .int .i64 b] 91) = Y ∧ Four Y w.heap.size u v a b ∧ Below w.heap.size w Y := ⟨_, rfl, Four.new w 91 u v a b, box1 _ _⟩
/-- How reach ends. -/
def ReachEnd (Ok : Nat → List Int → Int → List It → Prop) (w0 : World) (k p : Nat) (c s ix iy iw ih : Int) (gv cv : Value) (b : Nat) (lf : Value) (hv : Value) (W H : Int) (tl : List Nat) (f : Int → Int → Option Int) (gx gy bud : Int) (w : World) (e : Ending) (w' : World) : Prop :=
  ∃ (r : Bool) (i : Nat) (C' : List Int) (n' : Int) (S' R : List It) (hv' : Value) (G' : List Nat), e = .returned (.bool r) ∧ (Ok i C' n' S' ∧ (i : Int) ≤ max bud 0) ∧ Sch w0 w' k p c s ix iy iw ih gv cv b lf G' C' hv' n' R ∧ Gok W H tl f c s ix iy iw ih G' ∧
      Turns (Own gv cv b hv) w w' ∧ (∀ j, hv'.ownBlock = some j → hv.ownBlock = some j ∨ w.heap.size ≤ j) ∧
      ∃ tx ty tc tf ok, Nx ix iy iw C' S' tx ty tc tf ok R ∧ ((r = true ∧ (ok = false ∨ Stp ix iy iw gx gy C' tf)) ∨ (r = false ∧ ok = true ∧ ¬ Stp ix iy iw gx gy C' tf ∧ bud ≤ i))
set_option maxRecDepth 100000 in
set_option maxHeartbeats 4000000 in
theorem reach_is (Ok : Nat → List Int → Int → List It → Prop) (w0 : World) (k p : Nat) (c s ix iy iw ih : Int) (gv cv : Value) (b : Nat) (lf : Value) (G : List Nat) (C : List Int) (hv : Value) (n : Int) (S : List It) (W H : Int) (tl : List Nat) (f : Int → Int → Option Int) (L : Int → Int → Int) (gx gy bud : Int) (w : World)
    (h : Sch w0 w k p c s ix iy iw ih gv cv b lf G C hv n S) (hw : Wl w0 p W H tl f) (hg : Grnd w0) (ho : Offs w0) (hok : Gok W H tl f c s ix iy iw ih G) (hlf : Lfo w0 lf L)
    (hx : 0 ≤ gx - ix ∧ gx - ix < iw) (hy : 0 ≤ gy - iy ∧ gy - iy < ih) (hi : 0 ≤ ix ∧ 0 ≤ iy ∧ ix + iw ≤ 1048576 ∧ iy + ih ≤ 1048576) (hbud : -9223372036854775808 ≤ bud ∧ bud ≤ 9223372036854775807)
    (hL : ∀ u v, 0 ≤ L u v ∧ L u v ≤ 1099511627776) (hO : Ok 0 C n S)
    (hOb : ∀ i C n S, Ok i C n S → C.length = (ih * iw).toNat ∧ InR ix iy iw ih S ∧ S.length + 8 ≤ 1099511627776 ∧ (0 ≤ n ∧ n + 8 ≤ 1099511627776) ∧ ∀ t ∈ S, 0 ≤ t.c ∧ t.c ≤ 1099511627776)
    (hOs : ∀ i C n S tx ty tc tf R, Ok i C n S → Nx ix iy iw C S tx ty tc tf true R → ¬ Stp ix iy iw gx gy C tf → ∀ a, a = spreadF (fun d => stp W H tl f c s tx ty (d : Int)) ix iy iw L tx ty tc (C, n, R) (roundN tx ty ix iy iw ih 8) → Ok (i + 1) a.1 a.2.1 a.2.2) :
    Calls Tryz.prog 34 #[ptr k, cel gx gy, .int .i64 bud] w (ReachEnd Ok w0 k p c s ix iy iw ih gv cv b lf hv W H tl f gx gy bud w) := by
  have hCl := (hOb _ _ _ _ hO).1
  have hpos : 0 < iw ∧ 0 < ih := by omega
  have hCp : 0 < ih * iw := Int.mul_pos hpos.2 hpos.1
  have B0 : Below w.heap.size w (w.alloc (.cells #[.int .i64 gx, .int .i64 gy] 29)) := box1 _ _
  have F0 : Two (w.alloc (.cells #[.int .i64 gx, .int .i64 gy] 29)) w.heap.size gx gy := Two.newAt rfl
  have hbw := h.bel.size
  have hkl := h.sr.lt
  have z0 : (w.alloc (.cells #[.int .i64 gx, .int .i64 gy] 29)).heap.size = w.heap.size + 1 := by simp
  have Hst := hide (And.intro (h.upto B0) (And.intro F0 (Turns.of_below (S := Own gv cv b hv) B0)))
  have Hno : Hid (∀ j, Own gv cv b hv j → j < w.heap.size) := hide fun j e => h.own_lt e
  have HO := hide hO
  have HOb := hide hOb
  have HOs := hide hOs
  have HL := hide hL
  have HXY := hide (And.intro hx (And.intro hy (And.intro hi (And.intro hpos (And.intro hbud hCp)))))
  have Hk := hide (And.intro hbw (And.intro hkl z0))
  have Hgok := hide hok
  clear h B0 F0 z0 hO hOb hOs hL hx hy hi hpos hbud hCp hbw hkl hok hCl
  go_enter Tryz.func34, Tryz.ntmps34
  go_wp2_with fail
  go_loopw [2] (fun v wr => ∃ (i : Nat) (C' : List Int) (n' : Int) (S' : List It) (hv' : Value) (G' : List Nat), v = .int .i64 (bud - i) ∧ (i = 0 ∨ (i : Int) ≤ bud) ∧ Ok i C' n' S' ∧ (Sch w0 wr k p c s ix iy iw ih gv cv b lf G' C' hv' n' S' ∧ Gok W H tl f c s ix iy iw ih G') ∧ Two wr w.heap.size gx gy ∧ (Turns (Own gv cv b hv) w wr ∧ w.heap.size < wr.heap.size) ∧ ∀ j, hv'.ownBlock = some j → hv.ownBlock = some j ∨ w.heap.size < j) (fun v _ => (intOf v).toNat)
  case atStart => exact ⟨0, C, n, S, hv, G, by simp, .inl rfl, HO.out, ⟨Hst.out.1, Hgok.out⟩, Hst.out.2.1, ⟨Hst.out.2.2, by simp⟩, fun j e => .inl e⟩
  case round =>
    clear Hst Hgok HO
    obtain ⟨i, C, n, S, hw2, G, rfl, hib, hO, ⟨hs, hgo⟩, hF, ⟨hT, hz⟩, hfr⟩ := hrel
    obtain ⟨hx, hy, hi, hpos, hbud, hCp⟩ := HXY.out
    obtain ⟨b1, b2, b3, b4, b5⟩ := HOb.out _ _ _ _ hO
    have hnoh : ∀ j, Own gv cv b hw2 j → j ≠ w.heap.size := fun j e q => by
      have := Hno.out j
      rcases e with e | e | e | e
      · have := this (.inl e); omega
      · have := this (.inr (.inl e)); omega
      · have := this (.inr (.inr (.inl e))); omega
      · rcases hfr j e with e | e
        · have := this (.inr (.inr (.inr e))); omega
        · omega
    have hN := nearest_g w0 k p c s ix iy iw ih gv cv b lf G C hw2 n S _ hs b1 b2 hi hpos (by omega)
    obtain ⟨g, cap, hcv, hgl⟩ := hs.ct.form (by omega)
    have HN := hide hN
    have Hib := hide (And.intro hib hbud)
    have Hb := hide (And.intro hO (And.intro b1 (And.intro b2 (And.intro b3 (And.intro b4 b5)))))
    have Hs := hide (And.intro hgo (And.intro hF (And.intro hT (And.intro hz (And.intro hfr hnoh)))))
    clear hN hO b1 b2 b3 b4 b5 hs hgo hF hT hz hfr hnoh hib hbud hx hy hi hpos hCp
    go_wp2_with fail
    refine HN.out.mono ?_
    rintro e w1 ⟨tx, ty, tc, tf, ok, R, hv1, rfl, hnx, h1, hf1, T1⟩
    have hF1 := Hs.out.2.1.turned T1 (fun e => Hs.out.2.2.2.2.2 _ e rfl)
    have hz1 := T1.size
    obtain ⟨Y, hY, hFY, BY⟩ := four_put w1 tx ty tc tf
    have HY := hide hY
    have h2 := h1.upto BY
    have hF2 := hF1.kept BY
    have hzY := BY.size
    obtain ⟨⟨hx1, hx2⟩, ⟨hy1, hy2⟩, hi, hpos, hbud, hCp⟩ := HXY.out
    have hI := idx_in (c := 0) (d := 0) hy1 hy2 hx1 hx2
    obtain ⟨J, hJ⟩ : ∃ J : Nat, (gy - iy) * iw + (gx - ix) = (J : Int) := ⟨((gy - iy) * iw + (gx - ix)).toNat, by omega⟩
    have hJi : ij ix iy iw gx gy = J := by unfold ij; omega
    have hJl : J < C.length := by rw [Hb.out.2.1]; omega
    obtain ⟨m, hm⟩ : ∃ m, C[J]? = some m := ⟨_, List.getElem?_eq_getElem hJl⟩
    have Hstp : Hid (Stp ix iy iw gx gy C tf ↔ m ≠ -1 ∧ m < tf) := hide (by
      unfold Stp
      rw [hJi, hm]
      constructor
      · rintro ⟨m', e, q⟩; cases e; exact q
      · exact fun q => ⟨m, rfl, q⟩)
    have HCg : Hid (∀ wx, Cts wx cv C → wx.cell? ⟨g, J, none⟩ = some (.int .i64 m)) := hide fun wx q => by rw [hcv] at q; exact (Cts.got q hm).1
    have HC8 : Hid (∀ wx, Sr wx k p c s ix iy iw ih gv cv b lf → wx.cell? ⟨k, 8, none⟩ = some (.slice (some ⟨g, 0, none⟩) C.length cap)) := hide fun wx q => by rw [← hcv]; exact q.cl 8
    have HIx := hide (fun wx (q : Below Y.heap.size Y wx) => sindex_is k p c s ix iy iw ih gv cv b lf gx gy wx (h2.sr.upto q) ⟨hx1, hx2⟩ ⟨hy1, hy2⟩ hi)
    rw [hJ] at HIx
    have HS2 : (fun wx : World => wx.cell? ⟨k, 8, none⟩ = some (.slice (some ⟨g, 0, none⟩) C.length cap) ∧ wx.cell? ⟨w.heap.size, 0, none⟩ = some (.int .i64 gx) ∧ wx.cell? ⟨w.heap.size, 1, none⟩ = some (.int .i64 gy) ∧ wx.cell? ⟨g, J, none⟩ = some (.int .i64 m)) Y.drew := ⟨HC8.out _ h2.sr, hF2.1.1, hF2.1.2, HCg.out _ h2.ct⟩
    have HK2 : Hid (∀ wx, Below Y.heap.size Y wx → (fun wx : World => wx.cell? ⟨k, 8, none⟩ = some (.slice (some ⟨g, 0, none⟩) C.length cap) ∧ wx.cell? ⟨w.heap.size, 0, none⟩ = some (.int .i64 gx) ∧ wx.cell? ⟨w.heap.size, 1, none⟩ = some (.int .i64 gy) ∧ wx.cell? ⟨g, J, none⟩ = some (.int .i64 m)) wx ∧ Sch w0 wx k p c s ix iy iw ih gv cv b lf G C hv1 n R ∧ Two wx w.heap.size gx gy ∧ Four wx w1.heap.size tx ty tc tf) := hide fun wx q' => by
      have e1 := hF2.kept q'
      exact ⟨⟨HC8.out _ (h2.sr.upto q'), e1.1.1, e1.1.2, HCg.out _ (h2.ct.upto q')⟩, h2.upto q', e1, hFY.kept q'⟩
    have hJli : (0 : Int) ≤ (J : Nat) ∧ ((J : Nat) : Int) < (C.length : Nat) := by omega
    have HTY := hide (And.intro hf1 (T1.trans (Turns.of_below BY)))
    have Hnx := hide hnx
    have Hz := hide (And.intro hz1 hzY)
    clear hx1 hx2 hy1 hy2 hi hpos hbud hCp hI hJ hJi hJl hm hnx h1 h2 hF1 hF2 hFY BY T1 hf1 hz1 hzY hY HN hcv hgl
    go_wp2_with (rw [HY.out])
    refine wp_only ?_
    refine wp_region_z (fun wx : World => wx.cell? ⟨k, 8, none⟩ = some (.slice (some ⟨g, 0, none⟩) C.length cap) ∧ wx.cell? ⟨w.heap.size, 0, none⟩ = some (.int .i64 gx) ∧ wx.cell? ⟨w.heap.size, 1, none⟩ = some (.int .i64 gy) ∧ wx.cell? ⟨g, J, none⟩ = some (.int .i64 m)) [] (by kernel_rfl) ?_
    refine anyZ_take 0 8 (v := ptr k) rfl (by kernel_rfl) (fun _ _ _ h => h.elim) (Or.inl ⟨by rfl, fun wx hx => by obtain ⟨q0, q1, q2, q3⟩ := hx; clear HS2; go_simp⟩) HS2 ?_
    try simp only [Act.put, List.getElem_toArray, List.getElem_cons_zero, List.getElem_cons_succ, List.setIfInBounds_toArray, List.set_cons_zero, List.set_cons_succ]
    refine anyZ_take 1 8 (v := ptr k) rfl (by kernel_rfl) (fun _ _ _ h => h.elim) (Or.inl ⟨by rfl, fun wx hx => by obtain ⟨q0, q1, q2, q3⟩ := hx; clear HS2; go_simp⟩) HS2 ?_
    try simp only [Act.put, List.getElem_toArray, List.getElem_cons_zero, List.getElem_cons_succ, List.setIfInBounds_toArray, List.set_cons_zero, List.set_cons_succ]
    refine anyZ_take 2 8 (v := .pointer (some ⟨k, 8, none⟩)) rfl (by kernel_rfl) (fun _ _ _ h => h.elim) (Or.inl ⟨by rfl, fun wx hx => by obtain ⟨q0, q1, q2, q3⟩ := hx; clear HS2; go_simp⟩) HS2 ?_
    try simp only [Act.put, List.getElem_toArray, List.getElem_cons_zero, List.getElem_cons_succ, List.setIfInBounds_toArray, List.set_cons_zero, List.set_cons_succ]
    refine anyZ_take 3 8 (v := .slice (some ⟨g, 0, none⟩) C.length cap) rfl (by kernel_rfl) (fun _ _ _ h => h.elim) (Or.inl ⟨by rfl, fun wx hx => by obtain ⟨q0, q1, q2, q3⟩ := hx; clear HS2; go_simp⟩) HS2 ?_
    try simp only [Act.put, List.getElem_toArray, List.getElem_cons_zero, List.getElem_cons_succ, List.setIfInBounds_toArray, List.set_cons_zero, List.set_cons_succ]
    refine anyZ_take 4 8 (v := ptr k) rfl (by kernel_rfl) (fun _ _ _ h => h.elim) (Or.inl ⟨by rfl, fun wx hx => by obtain ⟨q0, q1, q2, q3⟩ := hx; clear HS2; go_simp⟩) HS2 ?_
    try simp only [Act.put, List.getElem_toArray, List.getElem_cons_zero, List.getElem_cons_succ, List.setIfInBounds_toArray, List.set_cons_zero, List.set_cons_succ]
    refine anyZ_take 5 8 (v := cel gx gy) rfl (by kernel_rfl) (fun _ _ _ h => h.elim) (Or.inl ⟨by rfl, fun wx hx => by obtain ⟨q0, q1, q2, q3⟩ := hx; clear HS2; go_simp⟩) HS2 ?_
    try simp only [Act.put, List.getElem_toArray, List.getElem_cons_zero, List.getElem_cons_succ, List.setIfInBounds_toArray, List.set_cons_zero, List.set_cons_succ]
    refine anyZ_ready (rs := [6]) (by kernel_rfl) (by simp) ?_
    refine readyZ.call rfl rfl (run_call16 (by rfl) (by rfl) (by simp only [List.map_toArray, List.map_cons, List.map_nil]; rfl)) (HIx.out _ (Below.refl _ _).drew) ?_ readyZ.nil
    rintro e w2 ⟨rfl, hb1⟩
    have hb1' : Below Y.heap.size Y w2 := (Below.refl _ Y).drew.trans hb1
    have HS2' := (HK2.out _ hb1').1
    refine ⟨_, rfl, fun _ => HS2', ?_⟩
    clear HS2
    have HS2 := HS2'
    clear HS2'
    try simp only [Act.put, List.getElem_toArray, List.getElem_cons_zero, List.getElem_cons_succ, List.setIfInBounds_toArray, List.set_cons_zero, List.set_cons_succ]
    refine anyZ_take 7 8 (v := .pointer (some ⟨g, J, none⟩)) rfl (by kernel_rfl) (fun _ _ _ h => h.elim) (Or.inl ⟨by rfl, fun wx hx => by obtain ⟨q0, q1, q2, q3⟩ := hx; clear HS2; go_simp⟩) HS2 ?_
    try simp only [Act.put, List.getElem_toArray, List.getElem_cons_zero, List.getElem_cons_succ, List.setIfInBounds_toArray, List.set_cons_zero, List.set_cons_succ]
    refine anyZ_take 8 8 (v := .int .i64 m) rfl (by kernel_rfl) (fun _ _ _ h => h.elim) (Or.inl ⟨by rfl, fun wx hx => by obtain ⟨q0, q1, q2, q3⟩ := hx; clear HS2; go_simp⟩) HS2 ?_
    try simp only [Act.put, List.getElem_toArray, List.getElem_cons_zero, List.getElem_cons_succ, List.setIfInBounds_toArray, List.set_cons_zero, List.set_cons_succ]
    refine anyZ_take 9 8 (v := .int .i64 m) rfl (by kernel_rfl) (fun _ _ _ h => h.elim) (Or.inl ⟨by rfl, fun wx hx => by obtain ⟨q0, q1, q2, q3⟩ := hx; clear HS2; go_simp⟩) HS2 ?_
    try simp only [Act.put, List.getElem_toArray, List.getElem_cons_zero, List.getElem_cons_succ, List.setIfInBounds_toArray, List.set_cons_zero, List.set_cons_succ]
    refine anyZ_done (by kernel_rfl) ?_ _
    dsimp only [Only, Exit.then]
    have Hw2 := hide (And.intro (HK2.out _ hb1').2 (And.intro (HTY.out.2.trans (Turns.of_below hb1')) (And.intro hb1'.size Hz.out)))
    clear HS2 hb1 hb1' HIx HK2 HC8 HCg hJli HY
    have Hend : Hid (∀ r, ((r = true ∧ (ok = false ∨ Stp ix iy iw gx gy C tf)) ∨ (r = false ∧ ok = true ∧ ¬ Stp ix iy iw gx gy C tf ∧ bud ≤ i)) → ReachEnd Ok w0 k p c s ix iy iw ih gv cv b lf hv W H tl f gx gy bud w (.returned (.bool r)) w2) := hide fun r hr => by
      obtain ⟨hgo, hF, hT, hz, hfr, hnoh⟩ := Hs.out
      obtain ⟨⟨e1, e2, e3⟩, e4, e5⟩ := Hw2.out
      have hib := Hib.out.1
      refine ⟨r, i, C, n, S, R, hv1, G, rfl, ⟨Hb.out.1, by omega⟩, e1, hgo, hT.trans (e4.mono (fun j _ e => ?_)), fun j e => (hfr j (HTY.out.1 j e)).imp id Nat.le_of_lt, tx, ty, tc, tf, ok, Hnx.out, hr⟩
      rcases e with e | e | e | e
      · exact .inl (.inl e)
      · exact .inl (.inr (.inl e))
      · exact .inl (.inr (.inr (.inl e)))
      · exact (hfr j e).imp (fun q => .inr (.inr (.inr q))) Nat.le_of_lt
    cases ok
    · have Hq := hide (Hend.out true (.inl ⟨rfl, .inl rfl⟩))
      go_wp2_with fail
      refine bodyPost_ret (v := .bool true) (by simp [results, Tryz.results34, go_sem]) rfl ?_
      exact Hq.out
    · by_cases hm1 : m = -1
      · have hns : ¬ Stp ix iy iw gx gy C tf := fun q => (Hstp.out.1 q).1 hm1
        have Hns := hide hns
        clear hns
        obtain ⟨⟨f0, f1, f2, f3⟩, -, -⟩ := Hw2.out.1.2.2
        by_cases hbz : bud - (i : Int) ≤ 0
        · have Hq := hide (Hend.out false (.inr ⟨rfl, rfl, Hns.out, by omega⟩))
          go_wp2_with fail
          refine bodyPost_ret (v := .bool false) (by simp [results, Tryz.results34, go_sem]) rfl ?_
          exact Hq.out
        · obtain ⟨t, ht, rfl, rfl, rfl, rfl⟩ := Hnx.out.mem
          obtain ⟨hO, c1, c2, c3, c4, c5⟩ := Hb.out
          obtain ⟨hx, hy, hi, hpos, hbud, hCp⟩ := HXY.out
          have HSp := hide (spread_is w0 k p c s ix iy iw ih gv cv b lf G C hv1 n R W H tl f L t.x t.y t.c t.f w2 Hw2.out.1.1 hw hg ho Hs.out.1 hlf c1 (c2 t ht).1 (c2 t ht).2 hi (c5 t ht) HL.out c4 (by have := Hnx.out.len; omega))
          have hwr : IntKind.i64.wrap (bud - (i : Int) - 1) = bud - (i : Int) - 1 := IntWalk.i64_in _ (by omega)
          have HO2 := hide (HOs.out _ _ _ _ _ _ _ _ _ hO Hnx.out Hns.out)
          have HF2 := hide (And.intro Hw2.out.1.2.1 (And.intro Hw2.out.2.1 (And.intro Hw2.out.2.2.1 (And.intro Hw2.out.2.2.2.1 Hw2.out.2.2.2.2))))
          have Hbz := hide hbz
          have Hib2 := hide (And.intro Hib.out hbud)
          clear hO c1 c2 c3 c4 c5 hx hy hi hpos hbud hCp Hend Hw2 ht
          go_wp2_with fail
          refine HSp.out.mono ?_
          rintro e w4 ⟨rfl, G', C', hv', n', S', s1, s2, s3, s4, s5⟩
          have HE : Hid (∃ (i2 : Nat) (C' : List Int) (n' : Int) (S' : List It) (hv' : Value) (G' : List Nat), Value.int .i64 (bud - (i : Int) - 1) = .int .i64 (bud - i2) ∧ (i2 = 0 ∨ (i2 : Int) ≤ bud) ∧ Ok i2 C' n' S' ∧ (Sch w0 w4 k p c s ix iy iw ih gv cv b lf G' C' hv' n' S' ∧ Gok W H tl f c s ix iy iw ih G') ∧ Two w4 w.heap.size gx gy ∧ (Turns (Own gv cv b hv) w w4 ∧ w.heap.size < w4.heap.size) ∧ ∀ j, hv'.ownBlock = some j → hv.ownBlock = some j ∨ w.heap.size < j) := hide (by
            obtain ⟨hgo, hF, hT, hz, hfr, hnoh⟩ := Hs.out
            obtain ⟨e1, e2, e3, e4, e5⟩ := HF2.out
            have hb3 := Hbz.out
            have hOk := HO2.out _ s3
            have hz4 := s4.size
            have own1 : ∀ j, Own gv cv b hv1 j → Own gv cv b hw2 j := fun j e => e.imp id (fun e => e.imp id (fun e => e.imp id (HTY.out.1 j)))
            have own2 : ∀ j, Own gv cv b hw2 j → Own gv cv b hv j ∨ w.heap.size ≤ j := fun j e => by
              rcases e with e | e | e | e
              · exact .inl (.inl e)
              · exact .inl (.inr (.inl e))
              · exact .inl (.inr (.inr (.inl e)))
              · exact (hfr j e).imp (fun q => .inr (.inr (.inr q))) Nat.le_of_lt
            refine ⟨i + 1, C', n', S', hv', G', by congr 1; omega, .inr (by omega), hOk, ⟨s1, s2⟩, e1.turned s4 (fun e => hnoh _ (own1 _ e) rfl), ⟨(hT.trans (e2.mono (fun j _ e => own2 j e))).trans (s4.mono (fun j _ e => own2 j (own1 j e))), by omega⟩, fun j e => ?_⟩
            rcases s5 j e with q | q
            · exact hfr j (HTY.out.1 j q)
            · exact .inr (by omega))
          clear s1 s2 s3 s4 s5
          go_wp2_with fail
          go_roundw
          case rel => exact HE.out
          case measure => simp [intOf]; omega
      · by_cases hm2 : m < tf
        · have Hq := hide (Hend.out true (.inl ⟨rfl, .inr (Hstp.out.2 ⟨hm1, hm2⟩)⟩))
          obtain ⟨⟨f0, f1, f2, f3⟩, -, -⟩ := Hw2.out.1.2.2
          go_wp2_with fail
          refine bodyPost_ret (v := .bool true) (by simp [results, Tryz.results34, go_sem]) rfl ?_
          exact Hq.out
        · have hns : ¬ Stp ix iy iw gx gy C tf := fun q => hm2 (Hstp.out.1 q).2
          have Hns := hide hns
          clear hns
          obtain ⟨⟨f0, f1, f2, f3⟩, -, -⟩ := Hw2.out.1.2.2
          by_cases hbz : bud - (i : Int) ≤ 0
          · have Hq := hide (Hend.out false (.inr ⟨rfl, rfl, Hns.out, by omega⟩))
            go_wp2_with fail
            refine bodyPost_ret (v := .bool false) (by simp [results, Tryz.results34, go_sem]) rfl ?_
            exact Hq.out
          · obtain ⟨t, ht, rfl, rfl, rfl, rfl⟩ := Hnx.out.mem
            obtain ⟨hO, c1, c2, c3, c4, c5⟩ := Hb.out
            obtain ⟨hx, hy, hi, hpos, hbud, hCp⟩ := HXY.out
            have HSp := hide (spread_is w0 k p c s ix iy iw ih gv cv b lf G C hv1 n R W H tl f L t.x t.y t.c t.f w2 Hw2.out.1.1 hw hg ho Hs.out.1 hlf c1 (c2 t ht).1 (c2 t ht).2 hi (c5 t ht) HL.out c4 (by have := Hnx.out.len; omega))
            have hwr : IntKind.i64.wrap (bud - (i : Int) - 1) = bud - (i : Int) - 1 := IntWalk.i64_in _ (by omega)
            have HO2 := hide (HOs.out _ _ _ _ _ _ _ _ _ hO Hnx.out Hns.out)
            have HF2 := hide (And.intro Hw2.out.1.2.1 (And.intro Hw2.out.2.1 (And.intro Hw2.out.2.2.1 (And.intro Hw2.out.2.2.2.1 Hw2.out.2.2.2.2))))
            have Hbz := hide hbz
            have Hib2 := hide (And.intro Hib.out hbud)
            clear hO c1 c2 c3 c4 c5 hx hy hi hpos hbud hCp Hend Hw2 ht
            go_wp2_with fail
            refine HSp.out.mono ?_
            rintro e w4 ⟨rfl, G', C', hv', n', S', s1, s2, s3, s4, s5⟩
            have HE : Hid (∃ (i2 : Nat) (C' : List Int) (n' : Int) (S' : List It) (hv' : Value) (G' : List Nat), Value.int .i64 (bud - (i : Int) - 1) = .int .i64 (bud - i2) ∧ (i2 = 0 ∨ (i2 : Int) ≤ bud) ∧ Ok i2 C' n' S' ∧ (Sch w0 w4 k p c s ix iy iw ih gv cv b lf G' C' hv' n' S' ∧ Gok W H tl f c s ix iy iw ih G') ∧ Two w4 w.heap.size gx gy ∧ (Turns (Own gv cv b hv) w w4 ∧ w.heap.size < w4.heap.size) ∧ ∀ j, hv'.ownBlock = some j → hv.ownBlock = some j ∨ w.heap.size < j) := hide (by
              obtain ⟨hgo, hF, hT, hz, hfr, hnoh⟩ := Hs.out
              obtain ⟨e1, e2, e3, e4, e5⟩ := HF2.out
              have hb3 := Hbz.out
              have hOk := HO2.out _ s3
              have hz4 := s4.size
              have own1 : ∀ j, Own gv cv b hv1 j → Own gv cv b hw2 j := fun j e => e.imp id (fun e => e.imp id (fun e => e.imp id (HTY.out.1 j)))
              have own2 : ∀ j, Own gv cv b hw2 j → Own gv cv b hv j ∨ w.heap.size ≤ j := fun j e => by
                rcases e with e | e | e | e
                · exact .inl (.inl e)
                · exact .inl (.inr (.inl e))
                · exact .inl (.inr (.inr (.inl e)))
                · exact (hfr j e).imp (fun q => .inr (.inr (.inr q))) Nat.le_of_lt
              refine ⟨i + 1, C', n', S', hv', G', by congr 1; omega, .inr (by omega), hOk, ⟨s1, s2⟩, e1.turned s4 (fun e => hnoh _ (own1 _ e) rfl), ⟨(hT.trans (e2.mono (fun j _ e => own2 j e))).trans (s4.mono (fun j _ e => own2 j (own1 j e))), by omega⟩, fun j e => ?_⟩
              rcases s5 j e with q | q
              · exact hfr j (HTY.out.1 j q)
              · exact .inr (by omega))
            clear s1 s2 s3 s4 s5
            go_wp2_with fail
            go_roundw
            case rel => exact HE.out
            case measure => simp [intOf]; omega
end Go.Proofs.YtggaobcdogbjhaaGreatDoor
namespace Go.Proofs.YtggaobcdogbjhaaGreatDoor
open Go.RowKit Go.Shelf
set_option linter.unusedVariables false
set_option linter.unusedSimpArgs false
attribute [local go_sem] Oper.semAt_some
def ceCs (q : Int × Int) : List Value := [.int .i64 q.1, .int .i64 q.2]
theorem info29c : (Tryz.prog.info? 29).map (fun i => (i.zero, i.size, i.bytes)) = some (some (.agg #[.int .i64 0, .int .i64 0]), 2, 16) := by kernel_rfl
theorem wpList_append_run {P : Program} {w : World} {ops : Array Oper} {rest : List Oper} {o : Oper} {a : Act} {Q : Exit → Act → World → Prop}
    (hgd : o.guard = none) (s x : Operand) (t : TypeId) (ho : o.op = .call { callee := .builtin .append, args := #[s, x], argTypes := #[t, t] })
    (v xv : Value) (hs : a.eval s = v) (hx : a.eval x = xv) {v' : Value} {w' : World} (hr : (Builtin.append_ #[t, t] o.type #[v, xv]).run P w = .ok v' w') (h : wpList P ops Q rest (a.put o.dst v') w') :
    wpList P ops Q (o :: rest) a w := by
  refine wpList_plain hgd fun K hK => ?_
  unfold Oper.wp
  simp [execOp, ho, resolve, invoke, builtin, hs, hx, hr, Result.andThen]
  exact hK _ _ h
/-- The slice v reads as the cells P, in memory of the call's own. -/
def Cn (w : World) (v : Value) (P : List (Int × Int)) : Prop := w.ownsRow 0 29 2 v P.length (P.flatMap ceCs)
theorem Cn.slice {w : World} {v : Value} {P : List (Int × Int)} (h : Cn w v P) : ∃ a n c, v = .slice a n c := by
  rcases h.2 with ⟨e, _⟩ | ⟨g, cap, cur, e, hb, hg, r⟩
  · exact ⟨_, _, _, e⟩
  · exact ⟨_, _, _, e⟩
theorem Cn.nil (w : World) : Cn w (.slice none 0 0) [] := ⟨rfl, .inl ⟨rfl, rfl⟩⟩
theorem Cn.turned {S : Nat → Prop} {w w' : World} {v : Value} {P : List (Int × Int)} (h : Cn w v P) (T : Turns S w w') (hs : ∀ k, v.ownBlock = some k → ¬ S k) : Cn w' v P := row_kept h T hs
theorem Cn.push {w : World} {v : Value} {P : List (Int × Int)} {N : Nat} (h : Cn w v P) (ho : ∀ k, v.ownBlock = some k → N < k) (hN : N < w.heap.size) (x y : Int) (hlen : P.length ≤ 1000000000) :
    ∃ v' w', (Builtin.append_ #[39, 39] 39 #[v, .slice (some ⟨w.heap.size, 0, none⟩) 1 1]).run Tryz.prog (w.alloc (.cells #[.int .i64 x, .int .i64 y] 29)) = .ok v' w' ∧ (∃ a n c, v' = .slice a n c) ∧ Cn w' v' (P ++ [(x, y)]) ∧ (∀ k, v'.ownBlock = some k → N < k) ∧ Turns (fun k => v.ownBlock = some k) w w' := by
  obtain ⟨fi, hf, hz, h1, h8⟩ := info_parts info29c
  obtain ⟨v', w', q1, q2, q3, q4, q5⟩ := run_append_own_at (P := Tryz.prog) (w.alloc (.cells #[.int .i64 x, .int .i64 y] 29)) 0 39 39 29 fi (.agg #[.int .i64 0, .int .i64 0]) 2 16 Tryz.underlying39 hf hz h1 h8 rfl (by decide) v P.length _ (World.ownsRow.alloc h _) ⟨w.heap.size, 0, none⟩ 1 1 (ceCs (x, y)) rfl (fun j u hu => by
      rw [Addr.add_lit, Nat.zero_add, cell_of_row _ w.heap.size j _ _ _ (heap_alloc_new w _)]
      simpa [ceCs] using hu) (by intro u hu; simp [ceCs] at hu; rcases hu with rfl | rfl <;> rfl) (by unfold maxLen; omega) (by omega) (Nat.zero_le _)
  have n1 : Cn w' v' (P ++ [(x, y)]) := by
    unfold Cn
    rw [List.flatMap_append, List.length_append]
    simpa using q2
  refine ⟨v', w', q1, n1.slice, n1, fun k e => ?_, (Turns.of_below (box1 w _)).trans ((Turns.of_grown (S := fun k => v.ownBlock = some k) q3 (fun k e => e)).mono (fun k _ e => .inl e))⟩
  rcases q5 with q | q
  · exact ho k (q ▸ e)
  · rw [q] at e; cases e; simp; omega
theorem mem_inn {x y p q c d : Int} {k : Nat} {t : Fin 8} (h : t ∈ roundN x y p q c d k) : inn x y p q c d t.val = true := (List.mem_filter.1 h).2
theorem inn_in {x y p q c d : Int} {k : Nat} (h : inn x y p q c d k = true) : (0 ≤ x + dX k - p ∧ x + dX k - p < c) ∧ 0 ≤ y + dY k - q ∧ y + dY k - q < d := by
  rw [inn, Bool.and_eq_true] at h
  have hbox := (has_iff _ _ _ _ _ _).1 h.2
  omega
theorem co_pos (t : Fin 8) : 10 ≤ co (t.val : Int) ∧ co (t.val : Int) ≤ 14 := by
  revert t
  decide
/-- The cells of a way that costs so much, from a cell on: the least direction each time. -/
def Wy (W H : Int) (tl : List Nat) (f : Int → Int → Option Int) (c s ix iy iw ih : Int) (C : List Int) (x y cost : Int) (l : List (Int × Int)) : Prop := ∀ M : Int → Int → Int → List (Int × Int) → Prop, (∀ x y cost, cost ≤ 0 → M x y cost []) → (∀ x y cost, 0 < cost → (∀ t ∈ roundN x y ix iy iw ih 8, fitF (fun d => stp W H tl f c s x y (d : Int)) ix iy iw C x y cost t = false) → M x y cost [(x, y)]) → (∀ (x y cost : Int) (pre : List (Fin 8)) (t : Fin 8) (l : List (Int × Int)), 0 < cost → pre ++ [t] <+: roundN x y ix iy iw ih 8 → (∀ t ∈ pre, fitF (fun d => stp W H tl f c s x y (d : Int)) ix iy iw C x y cost t = false) → fitF (fun d => stp W H tl f c s x y (d : Int)) ix iy iw C x y cost t = true → M (x + dX t.val) (y + dY t.val) (cost - co (t.val : Int)) l → M x y cost ((x + dX t.val, y + dY t.val) :: l)) → M x y cost l
theorem Wy.ends {W H : Int} {tl : List Nat} {f : Int → Int → Option Int} {c s ix iy iw ih : Int} {C : List Int} {x y cost : Int} (h : cost ≤ 0) : Wy W H tl f c s ix iy iw ih C x y cost [] := fun _ m1 _ _ => m1 _ _ _ h
theorem Wy.lost {W H : Int} {tl : List Nat} {f : Int → Int → Option Int} {c s ix iy iw ih : Int} {C : List Int} {x y cost : Int} (h : 0 < cost) (h1 : (∀ t ∈ roundN x y ix iy iw ih 8, fitF (fun d => stp W H tl f c s x y (d : Int)) ix iy iw C x y cost t = false)) : Wy W H tl f c s ix iy iw ih C x y cost [(x, y)] := fun _ _ m2 _ => m2 _ _ _ h h1
theorem Wy.next {W H : Int} {tl : List Nat} {f : Int → Int → Option Int} {c s ix iy iw ih : Int} {C : List Int} {x y cost : Int} {pre : List (Fin 8)} {t : Fin 8} {l : List (Int × Int)} (h : 0 < cost) (h1 : pre ++ [t] <+: roundN x y ix iy iw ih 8) (h2 : (∀ t ∈ pre, fitF (fun d => stp W H tl f c s x y (d : Int)) ix iy iw C x y cost t = false)) (h3 : fitF (fun d => stp W H tl f c s x y (d : Int)) ix iy iw C x y cost t = true) (h4 : Wy W H tl f c s ix iy iw ih C (x + dX t.val) (y + dY t.val) (cost - co (t.val : Int)) l) : Wy W H tl f c s ix iy iw ih C x y cost ((x + dX t.val, y + dY t.val) :: l) := fun M m1 m2 m3 => m3 _ _ _ _ _ _ h h1 h2 h3 (h4 M m1 m2 m3)
theorem Wy.ind {W H : Int} {tl : List Nat} {f : Int → Int → Option Int} {c s ix iy iw ih : Int} {C : List Int} {motive : (x y cost : Int) → (l : List (Int × Int)) → Wy W H tl f c s ix iy iw ih C x y cost l → Prop} (ends : ∀ {x y cost : Int} (h : cost ≤ 0), motive x y cost [] (Wy.ends h)) (lost : ∀ {x y cost : Int} (h : 0 < cost) (h1 : (∀ t ∈ roundN x y ix iy iw ih 8, fitF (fun d => stp W H tl f c s x y (d : Int)) ix iy iw C x y cost t = false)), motive x y cost [(x, y)] (Wy.lost h h1)) (next : ∀ {x y cost : Int} {pre : List (Fin 8)} {t : Fin 8} {l : List (Int × Int)} (h : 0 < cost) (h1 : pre ++ [t] <+: roundN x y ix iy iw ih 8) (h2 : (∀ t ∈ pre, fitF (fun d => stp W H tl f c s x y (d : Int)) ix iy iw C x y cost t = false)) (h3 : fitF (fun d => stp W H tl f c s x y (d : Int)) ix iy iw C x y cost t = true) (h4 : Wy W H tl f c s ix iy iw ih C (x + dX t.val) (y + dY t.val) (cost - co (t.val : Int)) l), motive (x + dX t.val) (y + dY t.val) (cost - co (t.val : Int)) l h4 → motive x y cost ((x + dX t.val, y + dY t.val) :: l) (Wy.next h h1 h2 h3 h4)) {x y cost : Int} {l : List (Int × Int)} (h : Wy W H tl f c s ix iy iw ih C x y cost l) : motive x y cost l h := by
  obtain ⟨h', hm⟩ : ∃ h' : Wy W H tl f c s ix iy iw ih C x y cost l, motive x y cost l h' := h (fun x y cost l => ∃ h' : Wy W H tl f c s ix iy iw ih C x y cost l, motive x y cost l h') (fun x y cost h => ⟨_, ends h⟩) (fun x y cost h h1 => ⟨_, lost h h1⟩) (fun x y cost pre t l h h1 h2 h3 ⟨h', hm⟩ => ⟨_, next h h1 h2 h3 h' hm⟩)
  exact hm
theorem Wy.inv {W H : Int} {tl : List Nat} {f : Int → Int → Option Int} {c s ix iy iw ih : Int} {C : List Int} {x y cost : Int} {l : List (Int × Int)} (h : Wy W H tl f c s ix iy iw ih C x y cost l) : (cost ≤ 0 ∧ l = []) ∨ (0 < cost ∧ (∀ t ∈ roundN x y ix iy iw ih 8, fitF (fun d => stp W H tl f c s x y (d : Int)) ix iy iw C x y cost t = false) ∧ l = [(x, y)]) ∨ ∃ (pre : List (Fin 8)) (t : Fin 8) (m : List (Int × Int)), 0 < cost ∧ pre ++ [t] <+: roundN x y ix iy iw ih 8 ∧ (∀ t ∈ pre, fitF (fun d => stp W H tl f c s x y (d : Int)) ix iy iw C x y cost t = false) ∧ fitF (fun d => stp W H tl f c s x y (d : Int)) ix iy iw C x y cost t = true ∧ Wy W H tl f c s ix iy iw ih C (x + dX t.val) (y + dY t.val) (cost - co (t.val : Int)) m ∧ l = (x + dX t.val, y + dY t.val) :: m := by
  induction h using Wy.ind with
  | ends h => exact .inl ⟨h, rfl⟩
  | lost h h1 => exact .inr (.inl ⟨h, h1, rfl⟩)
  | next h h1 h2 h3 h4 _ => exact .inr (.inr ⟨_, _, _, h, h1, h2, h3, h4, rfl⟩)
theorem onward_g (w0 : World) (k p : Nat) (c s ix iy iw ih : Int) (gv cv : Value) (b : Nat) (lf : Value) (G : List Nat) (C : List Int) (hv : Value) (n : Int) (S : List It) (W H : Int) (tl : List Nat) (f : Int → Int → Option Int) (x y cost : Int) (w : World)
    (h : Sch w0 w k p c s ix iy iw ih gv cv b lf G C hv n S) (hw : Wl w0 p W H tl f) (hg : Grnd w0) (ho : Offs w0) (hok : Gok W H tl f c s ix iy iw ih G) (hC : C.length = (ih * iw).toNat)
    (hx : 0 ≤ x - ix ∧ x - ix < iw) (hy : 0 ≤ y - iy ∧ y - iy < ih) (hi : 0 ≤ ix ∧ 0 ≤ iy ∧ ix + iw ≤ 1048576 ∧ iy + ih ≤ 1048576)
    (hb : ∀ m ∈ C, -1 ≤ m ∧ m ≤ 1099511627776) (hc : 0 < cost) :
    Calls Tryz.prog 69 #[ptr k, cel x y, .int .i64 cost] w fun e w' => ∃ u v r, e = .returned (.tuple #[cel u v, .int .i64 r]) ∧ (∃ G', Sch w0 w' k p c s ix iy iw ih gv cv b lf G' C hv n S ∧ Gok W H tl f c s ix iy iw ih G') ∧ Turns (fun j => gv.ownBlock = some j) w w' ∧
      ((0 ≤ u - ix ∧ u - ix < iw) ∧ 0 ≤ v - iy ∧ v - iy < ih) ∧ (∀ l, Wy W H tl f c s ix iy iw ih C u v r l → Wy W H tl f c s ix iy iw ih C x y cost ((u, v) :: l)) ∧ (r = 0 ∨ r + 10 ≤ cost) := by
  refine (onward_is w0 k p c s ix iy iw ih gv cv b lf G C hv n S W H tl f x y cost w h hw hg ho hok hC hx hy hi hb).mono ?_
  rintro e w' ⟨h1, h2, ⟨h3, rfl⟩ | ⟨pre, t, ⟨h3, h4, h5⟩, rfl⟩⟩
  · refine ⟨x, y, 0, rfl, h1, h2, ⟨hx, hy⟩, fun l hl => ?_, .inl rfl⟩
    rcases Wy.inv hl with ⟨q, hq⟩ | ⟨q, -⟩ | ⟨_, _, _, q, -⟩
    · subst hq; exact .lost hc h3
    · omega
    · omega
  · have hm : t ∈ roundN x y ix iy iw ih 8 := by obtain ⟨r, hr⟩ := h3; rw [← hr]; simp
    have hco := co_pos t
    exact ⟨_, _, _, rfl, h1, h2, inn_in (mem_inn hm), fun l hl => .next hc h3 h4 h5 hl, .inr (by omega)⟩
/-- How way ends. -/
def WayEnd (w0 : World) (k p : Nat) (c s ix iy iw ih : Int) (gv cv : Value) (b : Nat) (lf : Value) (C : List Int) (hv : Value) (n : Int) (S : List It) (W H : Int) (tl : List Nat) (f : Int → Int → Option Int) (x y cost : Int) (w : World) (e : Ending) (w' : World) : Prop :=
  ∃ v P, e = .returned v ∧ Wy W H tl f c s ix iy iw ih C x y cost P ∧ (Cn w' v P ∧ ∀ j, v.ownBlock = some j → w.heap.size ≤ j) ∧ (∃ G', Sch w0 w' k p c s ix iy iw ih gv cv b lf G' C hv n S ∧ Gok W H tl f c s ix iy iw ih G') ∧ Turns (fun j => gv.ownBlock = some j) w w'
set_option maxRecDepth 100000 in
set_option maxHeartbeats 4000000 in
theorem way_is (w0 : World) (k p : Nat) (c s ix iy iw ih : Int) (gv cv : Value) (b : Nat) (lf : Value) (G : List Nat) (C : List Int) (hv : Value) (n : Int) (S : List It) (W H : Int) (tl : List Nat) (f : Int → Int → Option Int) (x y cost : Int) (w : World)
    (h : Sch w0 w k p c s ix iy iw ih gv cv b lf G C hv n S) (hw : Wl w0 p W H tl f) (hg : Grnd w0) (ho : Offs w0) (hok : Gok W H tl f c s ix iy iw ih G) (hC : C.length = (ih * iw).toNat)
    (hx : 0 ≤ x - ix ∧ x - ix < iw) (hy : 0 ≤ y - iy ∧ y - iy < ih) (hi : 0 ≤ ix ∧ 0 ≤ iy ∧ ix + iw ≤ 1048576 ∧ iy + ih ≤ 1048576)
    (hb : ∀ m ∈ C, -1 ≤ m ∧ m ≤ 1099511627776) (hc : cost ≤ 1000000000) :
    Calls Tryz.prog 36 #[ptr k, cel x y, .int .i64 cost] w (WayEnd w0 k p c s ix iy iw ih gv cv b lf C hv n S W H tl f x y cost w) := by
  have B0 : Below w.heap.size w (w.alloc (.cells #[.int .i64 x, .int .i64 y] 29)) := box1 _ _
  have Hst : Hid (∃ (ax ay ac : Int) (P : List (Int × Int)) (G' : List Nat), ((Value.int .i64 cost) = .int .i64 ac ∧ (∃ a n c, (Value.slice none 0 0) = .slice a n c)) ∧ (∀ l, Wy W H tl f c s ix iy iw ih C ax ay ac l → Wy W H tl f c s ix iy iw ih C x y cost (P ++ l)) ∧ ((0 ≤ ax - ix ∧ ax - ix < iw) ∧ 0 ≤ ay - iy ∧ ay - iy < ih) ∧ Two (w.alloc (.cells #[.int .i64 x, .int .i64 y] 29)) w.heap.size ax ay ∧ (Sch w0 (w.alloc (.cells #[.int .i64 x, .int .i64 y] 29)) k p c s ix iy iw ih gv cv b lf G' C hv n S ∧ Gok W H tl f c s ix iy iw ih G') ∧ (Cn (w.alloc (.cells #[.int .i64 x, .int .i64 y] 29)) (Value.slice none 0 0) P ∧ ∀ j, (Value.slice none 0 0).ownBlock = some j → w.heap.size < j) ∧ (Turns (fun j => gv.ownBlock = some j) w (w.alloc (.cells #[.int .i64 x, .int .i64 y] 29)) ∧ w.heap.size < (w.alloc (.cells #[.int .i64 x, .int .i64 y] 29)).heap.size) ∧ (((P.length : Nat) : Int) * 10 + ac ≤ cost ∨ (ac ≤ 0 ∧ P.length ≤ 100000001)) ∧ ac ≤ 1000000000) := hide ⟨x, y, cost, [], G, ⟨rfl, _, _, _, rfl⟩, fun l hl => hl, ⟨hx, hy⟩, Two.newAt rfl, ⟨h.upto B0, hok⟩, ⟨Cn.nil _, fun j e => by simp [Value.ownBlock] at e⟩, ⟨Turns.of_below B0, by simp⟩, .inl (by simp), hc⟩
  have Hno : Hid (∀ j, Own gv cv b hv j → j < w.heap.size) := hide fun j e => h.own_lt e
  have Hk := hide (And.intro h.bel.size h.sr.lt)
  have Hb := hide (And.intro hi (And.intro hC (And.intro hb hc)))
  clear h B0 hok hx hy hi hC hb hc
  go_enter Tryz.func36, Tryz.ntmps36
  go_wp2_with fail
  go_loopw [2, 7] (fun vc vv wr => ∃ (ax ay ac : Int) (P : List (Int × Int)) (G' : List Nat), (vc = .int .i64 ac ∧ (∃ a n c, vv = .slice a n c)) ∧ (∀ l, Wy W H tl f c s ix iy iw ih C ax ay ac l → Wy W H tl f c s ix iy iw ih C x y cost (P ++ l)) ∧ ((0 ≤ ax - ix ∧ ax - ix < iw) ∧ 0 ≤ ay - iy ∧ ay - iy < ih) ∧ Two wr w.heap.size ax ay ∧ (Sch w0 wr k p c s ix iy iw ih gv cv b lf G' C hv n S ∧ Gok W H tl f c s ix iy iw ih G') ∧ (Cn wr vv P ∧ ∀ j, vv.ownBlock = some j → w.heap.size < j) ∧ (Turns (fun j => gv.ownBlock = some j) w wr ∧ w.heap.size < wr.heap.size) ∧ (((P.length : Nat) : Int) * 10 + ac ≤ cost ∨ (ac ≤ 0 ∧ P.length ≤ 100000001)) ∧ ac ≤ 1000000000) (fun vc _ _ => (intOf vc).toNat)
  case atStart => exact Hst.out
  case round =>
    clear Hst
    obtain ⟨ax, ay, ac, P, G', ⟨rfl, a1, a2, a3, rfl⟩, hWy, ⟨hx, hy⟩, hF, ⟨hs, hgo⟩, ⟨hcn, hown⟩, ⟨hT, hz⟩, hlen, hac⟩ := hrel
    by_cases hpos : 0 < ac
    · obtain ⟨hi, hC, hb, hc⟩ := Hb.out
      have hl10 : ((P.length : Nat) : Int) * 10 + ac ≤ cost := by omega
      have HOn := hide (onward_g w0 k p c s ix iy iw ih gv cv b lf G' C hv n S W H tl f ax ay ac _ hs hw hg ho hgo hC hx hy hi hb hpos)
      obtain ⟨⟨f0, f1⟩, ⟨f2, f3⟩, -⟩ := id hF
      have Hwy := hide hWy
      have Hr := hide (And.intro hF (And.intro hcn (And.intro hown (And.intro hT (And.intro hz (And.intro hl10 hac))))))
      have Hpos := hide hpos
      clear hi hC hb hc hWy hx hy hF hs hgo hcn hown hT hz hlen hac hl10 f2 f3
      go_wp2_with fail
      refine HOn.out.mono ?_
      rintro e w1 ⟨u, v, r, rfl, ⟨G2, s1, s2⟩, T1, hin, hwy, hr⟩
      obtain ⟨hF, hcn, hown, hT, hz, hl10, hac⟩ := Hr.out
      have hcc := Hb.out.2.2.2
      have hno : ∀ j, w.heap.size ≤ j → ¬ gv.ownBlock = some j := fun j hj e => by have := Hno.out j (.inl e); omega
      have hF1 := hF.turned T1 (hno _ (Nat.le_refl _))
      have hz1 := T1.size
      obtain ⟨Y, hY⟩ : ∃ Y, (w1.setCell ⟨w.heap.size, 0, none⟩ (.int .i64 u)).setCell ⟨w.heap.size, 1, none⟩ (.int .i64 v) = Y := ⟨_, rfl⟩
      have FY : Two Y w.heap.size u v := hY ▸ hF1.set
      have TY : Turns (fun j => j = w.heap.size) w1 Y := hY ▸ turns_two _ _ _ _
      have hzY := TY.size
      have sY := s1.leave TY (fun j e => by have := Hk.out.1; omega) (fun e => by have := Hk.out.2; omega) (fun j e q => by have := Hno.out j e; omega)
      have hcY := (hcn.turned T1 (fun j e => hno j (by have := hown j e; omega))).turned TY (fun j e q => by have := hown j e; omega)
      obtain ⟨v9, w9, r9, ⟨q1, q2, q3, rfl⟩, hC9, ho9, T9⟩ := hcY.push hown (by omega) u v (by omega)
      have hz9 := T9.size
      have F9 := FY.turned T9 (fun e => by have := hown _ e; omega)
      have s9 := sY.leave T9 (fun j e => by have := hown j e; have := Hk.out.1; omega) (fun e => by have := hown _ e; have := Hk.out.2; omega) (fun j e q => by have := hown j q; have := Hno.out j e; omega)
      have hpp := Hpos.out
      have HE : Hid (∃ (ax ay ac : Int) (P : List (Int × Int)) (G' : List Nat), ((Value.int .i64 r) = .int .i64 ac ∧ (∃ a n c, (Value.slice q1 q2 q3) = .slice a n c)) ∧ (∀ l, Wy W H tl f c s ix iy iw ih C ax ay ac l → Wy W H tl f c s ix iy iw ih C x y cost (P ++ l)) ∧ ((0 ≤ ax - ix ∧ ax - ix < iw) ∧ 0 ≤ ay - iy ∧ ay - iy < ih) ∧ Two w9 w.heap.size ax ay ∧ (Sch w0 w9 k p c s ix iy iw ih gv cv b lf G' C hv n S ∧ Gok W H tl f c s ix iy iw ih G') ∧ (Cn w9 (Value.slice q1 q2 q3) P ∧ ∀ j, (Value.slice q1 q2 q3).ownBlock = some j → w.heap.size < j) ∧ (Turns (fun j => gv.ownBlock = some j) w w9 ∧ w.heap.size < w9.heap.size) ∧ (((P.length : Nat) : Int) * 10 + ac ≤ cost ∨ (ac ≤ 0 ∧ P.length ≤ 100000001)) ∧ ac ≤ 1000000000) := hide ⟨u, v, r, P ++ [(u, v)], G2, ⟨rfl, _, _, _, rfl⟩, fun l hl => by
          rw [List.append_assoc]; exact Hwy.out _ (hwy l hl), hin, F9, ⟨s9, s2⟩, ⟨hC9, ho9⟩, ⟨((hT.trans (T1.mono (fun j _ e => .inl e))).trans (TY.mono (fun j _ e => .inr (by omega)))).trans (T9.mono (fun j _ e => .inr (by have := hown j e; omega))), by omega⟩, by
          rcases hr with rfl | hr
          · exact .inr ⟨by omega, by simp; omega⟩
          · exact .inl (by simp; omega), by omega⟩
      have Hr2 := hide hr
      have HA := hide r9
      have HY := hide hY
      obtain ⟨⟨g0, g1⟩, ⟨g2, g3⟩, -⟩ := id hF1
      obtain ⟨⟨y0, y1⟩, -, -⟩ := id FY
      clear hF hcn hown hT hz hl10 hac hF1 hz1 hY FY TY hzY sY hcY r9 hC9 ho9 T9 hz9 F9 s9 s1 s2 T1 hin hwy hr f0 f1
      go_wp2_with (first | rw [HY.out] | (at_builtin; refine wpList_append_run rfl _ _ 39 rfl _ _ rfl rfl HA.out ?_))
      go_roundw
      case rel => exact HE.out
      case measure => have := Hr2.out; simp [intOf]; omega
    · have HE : Hid (WayEnd w0 k p c s ix iy iw ih gv cv b lf C hv n S W H tl f x y cost w (.returned (.slice a1 a2 a3)) wr) := hide ⟨_, P, rfl, by have := hWy [] (.ends (by omega)); rwa [List.append_nil] at this, ⟨hcn, fun j e => Nat.le_of_lt (hown j e)⟩, ⟨G', hs, hgo⟩, hT⟩
      clear hWy hx hy hF hs hgo hcn hown hT hz hlen hac
      go_wp2_with fail
      refine bodyPost_ret (v := .slice a1 a2 a3) (by simp [results, Tryz.results36, go_sem]) rfl ?_
      exact HE.out
end Go.Proofs.YtggaobcdogbjhaaGreatDoor
