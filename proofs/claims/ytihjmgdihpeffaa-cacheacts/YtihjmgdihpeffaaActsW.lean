/-
  phalanxlaw16.CacheActs, walked.
-/
import Derived.Test.YtihjmgdihpeffaaLi
namespace Go.Proofs.Ytihjmgdihpeffaa
open Go.RowKit Go.Shelf
set_option linter.unusedVariables false
set_option linter.unusedSimpArgs false
attribute [local go_sem] Oper.semAt_some
theorem wpIn_region_zW (S : World → Prop) (zs : List Nat) {n : Nat} {P : Program} {id : Nat} {Q : Exit → Act → World → Prop} {a : Act} {w : World} {L : List Oper} (hm : P.follows .mixedOrders = true)
    (h : anyZ P .any L.toArray Q S zs L.toArray.size (Array.replicate L.toArray.size false) a w.drew) : (Code.region id L.toArray true).wpIn Fence.wide n P Q a w :=
  wpIn_wide.2 (wp_region_z S zs hm h)
theorem Rf9 : Rcl 9 := zl fun _ _ => by go_simp
theorem Rf10 : Rcl 10 := zl fun _ _ => by go_simp
theorem readyZ.consG {P : Program} {md : Region.Mode} {ops : Array Oper} {Q : Exit → Act → World → Prop} {S : World → Prop} {zs : List Nat} {n : Nat} {L : Array Bool} {a : Act} {w : World} {i : Nat} {rs : List Nat} {o : Oper} (ho : ops[i]? = some o) (hg : Region.wanted o (yielded ops a.tmps) = true) {v' : Value} {w' : World}
    (hr : (execOp a.eval o).run P w = .ok (.value v') w') (hS : i ∉ zs → S w') (h : anyZ P md ops Q S zs n (L.setIfInBounds i true) (a.put o.dst v') w')
    (hrest : readyZ P md ops Q S zs n L a w rs) : readyZ P md ops Q S zs n L a w (i :: rs) := fun j hj => by
  rcases List.mem_cons.1 hj with rfl | hj
  · refine wpOp_step ho (fun K hK => ?_)
    rw [if_pos hg]
    unfold Oper.wp
    rw [hr]
    exact hK _ _ ⟨hS, h⟩
  · exact hrest j hj
theorem run_neS {ev : Operand → Value} {o : Oper} {w : World} {x y : Operand} {a : K6} (ho : o.op = .binOp .neq 36 x y 36) (hx : ev x = kv a) (hy : ev y = kv a) : (execOp ev o).run Try.prog w = .ok (.value (.bool false)) w := by
  have h := run_neK (w := w) ho hx hy
  simpa using h
theorem Rf11 : Rcl 11 := zl fun _ _ => by go_simp
theorem Rf15 : Rcl 15 := zl fun _ _ => by go_simp
theorem Rf6 : Rcl 6 := zl fun _ _ => by go_simp
theorem Rf12 : Rcl 12 := zl fun _ _ => by go_simp
theorem Rf13 : Rcl 13 := zl fun _ _ => by go_simp
theorem CeR.blk {w : World} {a : Option Addr} {n c : Nat} {P : List (Int × Int)} (h : CeR w (.slice a n c) P) (hne : P ≠ []) {g : Nat} (hg : (Value.slice a n c).ownBlock = some g) : g < w.heap.size := by
  obtain ⟨a', cap', e, -, -, -, hat⟩ := h
  injection e with e1
  subst e1
  cases P with
  | nil => exact absurd rfl hne
  | cons q r =>
    obtain ⟨g', o', e1, e2, -⟩ := hat 0 q rfl
    subst e1
    have : g' = g := by simpa [Value.ownBlock] using hg
    omega
theorem AcR.elt {w : World} {a : Option Addr} {n cap : Nat} {l : List Ac} (h : AcR w (.slice a n cap) l) {i : Nat} {t : Ac} (hi : l[i]? = some t) : ∃ g o, a = some ⟨g, o, none⟩ ∧ g < w.heap.size ∧ ∀ j u, (acCs t)[j]? = some u → w.cell? ⟨g, o + i * 10 + j, none⟩ = some u := by
  obtain ⟨a', cap', e, -, -, -, hat⟩ := h.1
  injection e with e1
  subst e1
  exact hat i t hi
/-- A box of a number is turned. -/
theorem LI.turn3 {n h b c m d : Nat} {room : Int} {ov kx wx : Value} {ep : Int} {F : K6 → Value} {L : List En} {er : Int} {U : List Wv} {R : List En} {w w' : World} {g : Nat} {l : List Value} (i : LI n h b c m d room ov kx wx ep F L er U R w) (ht : Turns (fun k => k = g) w w') (hg : Bk w g 3 l) : LI n h b c m d room ov kx wx ep F L er U R w' := by
  have hcl : ∀ k, k = g → ∀ cur, w.heap[k]? ≠ some (.cells cur 34 (0, 0)) := fun k hk cur hc => by subst hk; have := hg.symm.trans hc; simp at this
  refine ⟨i.pc.kept ht (fun k hk hs => ?_) hcl, i.rc.kept ht (fun hs => ?_) (fun k hk hs => ?_) (fun k hk hs => ?_) hcl, i.ne, i.bh.kept ht (fun hs => ?_), i.bb.kept ht (fun hs => ?_), i.lo, i.ld⟩
  · subst hs; exact i.pc.other hg (by decide) (by decide) hk
  · subst hs; have := i.rc.blk.one hg; simp at this
  · subst hs; exact i.rc.keys.notBk hg (by decide) hk
  · subst hs; exact i.rc.ways.notBk hg (by decide) hk
  · subst hs; have := i.bh.one hg; simp at this
  · subst hs; have := i.bb.one hg; simp at this
set_option maxRecDepth 100000 in
set_option maxHeartbeats 40000000 in
theorem acts_walk (room : Int) (v : Value) (l : List Ac) (w : World) (hl : AcR w v l) : Calls Try.prog 3 #[.int .i64 room, v] w fun e w' => e = .returned (.bool true) ∧ Below w.heap.size w w' := by
  refine (callsIn_wide (n := 10)).1 ?_
  refine callsIn_of_wp_marks Try.func3 rfl trivial ?_ rfl
  simp only [Try.ntmps3, List.size_toArray, List.length_cons, List.length_nil, Nat.reduceAdd, Nat.reduceSub, Array.replicate_succ, Array.replicate_zero, List.push_toArray, List.append_toArray, List.nil_append, List.cons_append]
  obtain ⟨al, cl, rfl, hcl, hml⟩ := hl.1.slice
  obtain ⟨X, hX⟩ : ∃ X, w.alloc (.cells #[.bool false] 4) = X := ⟨_, rfl⟩
  have B0 : Below w.heap.size w X := by rw [← hX]; exact box1 _ _
  have K0 : Bk X w.heap.size 4 [.bool false] := by rw [← hX]; exact Bk.new w 4 [.bool false]
  have HX := hide hX
  have HB0 := hide (And.intro B0 K0)
  have HL := hide hl
  clear hX B0 K0 hl
  gi_wp2_with (rw [HX.out])
  refine ⟨trivial, ?_⟩
  refine (callsIn_wide.2 (awake_any X)).mono ?_
  rintro e W0 ⟨rfl, hb0⟩
  have HB1 := hide (And.intro (HB0.out.1.trans (hb0.mono HB0.out.1.size)) (HB0.out.2.upto hb0))
  clear hb0 HX HB0
  gi_wp2_with fail
  refine ⟨trivial, ?_⟩
  refine (callsIn_wide.2 (new_is room W0)).mono ?_
  rintro e W1 hW1
  rcases hW1 with ⟨hr1, hr2, c, m, rfl, hP, hc, hm, hb1⟩ | ⟨hn, rfl, hw1⟩
  case inr =>
    rw [hw1]
    clear hw1 W1
    gi_wp2_with fail
    refine ⟨trivial, ?_⟩
    refine (callsIn_wide.2 (refnew_is room W0)).mono ?_
    rintro e W2 hW2
    rcases hW2 with ⟨hr1, hr2, -⟩ | ⟨-, rfl, hw2⟩
    · exact absurd ⟨hr1, hr2⟩ hn
    rw [hw2]
    clear hw2 W2
    have K1 := HB1.out.2
    gi_wp2_with fail
    refine ⟨trivial, ?_⟩
    refine (callsIn_wide.2 (awake_any _)).mono ?_
    rintro e W3 ⟨rfl, hb3⟩
    have B3 : Below w.heap.size w W3 := HB1.out.1.trans ((bt (box1 W0 _) hb3).mono HB1.out.1.size)
    have K3 := K1.upto (bt (box1 W0 _) hb3)
    have KE := K3.set 0 (.bool true)
    have k3 := K3.cell 0 _ rfl
    have f3 := K3.frozen 0
    have e3 := KE.cell 0 _ rfl
    have HE := hide (B3.setCell (p := ⟨w.heap.size, 0, none⟩) (Nat.le_refl _) (.bool true))
    clear K1 hb3 B3 K3 KE
    gi_wp2_with fail
    exact ⟨.bool true, by simp [results, Try.f3, go_sem, e3], rfl, HE.out⟩
  have hP := hP
  gi_wp2_with fail
  refine ⟨trivial, ?_⟩
  refine (callsIn_wide.2 (refnew_is room W1)).mono ?_
  rintro e W2 hW2
  rcases hW2 with ⟨-, -, rfl, hR, hb2⟩ | ⟨hn, -⟩
  case inr => exact absurd ⟨hr1, hr2⟩ hn
  obtain ⟨W3, hW3⟩ : ∃ W, W2.alloc (.cells #[ptr W1.heap.size] 28) = W := ⟨_, rfl⟩
  have B3 : Below W2.heap.size W2 W3 := by rw [← hW3]; exact box1 _ _
  have hz1 : w.heap.size ≤ W0.heap.size := HB1.out.1.size
  have hz2 : w.heap.size ≤ W1.heap.size := Nat.le_trans hz1 hb1.size
  have hlo0 : ∀ g, PB c m (.slice none 0 0) g → w.heap.size ≤ g := fun g hg => by
    rcases hg with rfl | rfl | hg
    · omega
    · omega
    · cases hg
  have LI0 : LI w.heap.size w.heap.size W2.heap.size c m W1.heap.size room (.slice none 0 0) (.slice none 0 0) (.slice none 0 0) 0 (fun _ => zW) [] 0 [] [] W3 :=
    ⟨(hP.upto hb2).upto B3, hR.upto B3, fun g hg => (by simp [Value.ownBlock] at hg), ((HB1.out.2.upto hb1).upto hb2).upto B3, by rw [← hW3]; exact Bk.new _ _ _, hlo0, hz2⟩
  have BL0 : Below w.heap.size w W3 := HB1.out.1.trans ((hb1.trans ((bt hb2 B3).mono hb1.size)).mono hz1)
  have HI := hide (And.intro LI0 BL0)
  have HW3 := hide hW3
  clear hP hR hb1 hb2 B3 LI0 BL0 hW3 hz1 hz2
  gi_wp2_with (rw [HW3.out])
  have hkl : (0 : Int) ≤ (l.length : Nat) ∧ ((l.length : Nat) : Int) ≤ 9223372036854775807 := by
    have : l.length ≤ 9223372036854775807 := hml
    omega
  gi_loopw [9] (fun s9 wr => ∃ k : Nat, k ≤ l.length ∧ s9 = .int .i64 k ∧ ∃ ov kx wx ep F L U, LI w.heap.size w.heap.size W2.heap.size c m W1.heap.size room ov kx wx ep F L ep U L wr ∧ Below w.heap.size w wr) (fun s9 _ => l.length - (intOf s9).toNat)
  case atStart => exact ⟨0, Nat.zero_le _, rfl, _, _, _, _, _, _, _, HI.out⟩
  case round =>
    obtain ⟨k, hk, rfl, ov, kx, wx, ep, F, L, U, hI, hB⟩ := hrel
    by_cases hlt : k < l.length
    · obtain ⟨t, ht⟩ : ∃ t, l[k]? = some t := ⟨_, List.getElem?_eq_getElem hlt⟩
      obtain ⟨g0, o0, rfl, hg0, hcs0⟩ := HL.out.elt ht
      obtain ⟨hq, hcr, hfit⟩ := HL.out.2 t (List.mem_of_getElem? ht)
      have hki : (k : Int) < (l.length : Nat) := by omega
      have hcell : ∀ wx, Below w.heap.size w wx → ∀ j u, (acCs t)[j]? = some u → wx.cell? ⟨g0, o0 + k * 10 + j, none⟩ = some u := fun wx hx j u hu => (hx.cell (p := ⟨g0, _, none⟩) hg0).trans (hcs0 j u hu)
      have hwn : w.heap.size ≤ wr.heap.size := hB.size
      obtain ⟨tg, tq, te, to, ta, tn, tc, tP⟩ := t
      dsimp only at hq hcr hfit
      have c0 : wr.cell? ⟨g0, o0 + k * 10, none⟩ = some (.bool tg) := hcell wr hB 0 _ rfl
      have HC := hide hcell
      have HT := hide (And.intro hq <| And.intro hcr hfit)
      have HI2 := hide (And.intro hI hB)
      obtain ⟨Y, hY⟩ : ∃ Y, wr.drew = Y := ⟨_, rfl⟩
      have BY : Below wr.heap.size wr Y := by rw [← hY]; exact (Below.refl _ _).drew
      have BYw : Below w.heap.size w Y := hB.trans (BY.mono hwn)
      have HIY := hide (And.intro (hI.upto BY) BYw)
      have HCY : Hid (∀ wx, Below Y.heap.size Y wx → ∀ j u, (acCs ⟨tg, tq, te, to, ta, tn, tc, tP⟩)[j]? = some u → wx.cell? ⟨g0, o0 + k * 10 + j, none⟩ = some u) := fun wx hx => hcell wx (BYw.trans (hx.mono BYw.size))
      have HY := hide hY
      clear hcs0 hcell hq hcr hfit hI hB BY BYw hY hwn ht
      cases tg
      · skip
        have hput := put_is HIY.out.1.pc HT.out.1 te (o := to) (HT.out.2.1.low HIY.out.2 (Nat.le_refl _)) HT.out.2.2 (fun g hne hg hs => by
          have h1 := HIY.out.1.lo g hs
          have h2 := CeR.blk HT.out.2.1 hne hg
          omega)
        have HPut := hide hput
        clear hput
        gi_wp2_with fail
        refine wpIn_only ?_
        refine wpIn_region_zW (S := fun wx => Below Y.heap.size Y wx) [16, 17] (by kernel_rfl) ?_
        rw [HY.out]
        refine zx 0 16 20 rfl (by kernel_rfl) (Below.refl _ _) ?_
        iterate 5 (refine zxc rfl (by rfl) (fun wx hx => by go_simp; rfl) ?_; simp only [zp])
        refine zxc (v := kv tq) rfl (by rfl) (fun wx hx => by
          have d1 : wx.cell? ⟨g0, o0 + k * 10 + 1, none⟩ = some (.int .i64 tq.1) := HCY.out wx hx 1 _ rfl
          have d2 : wx.cell? ⟨g0, o0 + k * 10 + 2, none⟩ = some (.int .i64 tq.2.1) := HCY.out wx hx 2 _ rfl
          have d3 : wx.cell? ⟨g0, o0 + k * 10 + 3, none⟩ = some (.int .i64 tq.2.2.1) := HCY.out wx hx 3 _ rfl
          have d4 : wx.cell? ⟨g0, o0 + k * 10 + 4, none⟩ = some (.int .i64 tq.2.2.2.1) := HCY.out wx hx 4 _ rfl
          have d5 : wx.cell? ⟨g0, o0 + k * 10 + 5, none⟩ = some (.int .i64 tq.2.2.2.2.1) := HCY.out wx hx 5 _ rfl
          have d6 : wx.cell? ⟨g0, o0 + k * 10 + 6, none⟩ = some (.int .i64 tq.2.2.2.2.2) := HCY.out wx hx 6 _ rfl
          clear hx; go_simp) ?_
        simp only [zp]
        iterate 4 (refine zxc rfl (by rfl) (fun wx hx => by go_simp; rfl) ?_; simp only [zp])
        refine zxc (v := .int .i64 te) rfl (by rfl) (fun wx hx => by have d7 : wx.cell? ⟨g0, o0 + k * 10 + 7, none⟩ = some (.int .i64 te) := HCY.out wx hx 7 _ rfl; clear hx; go_simp) ?_
        simp only [zp]
        iterate 4 (refine zxc rfl (by rfl) (fun wx hx => by go_simp; rfl) ?_; simp only [zp])
        refine zxc (v := wy to (.slice ta tn tc)) rfl (by rfl) (fun wx hx => by have d8 : wx.cell? ⟨g0, o0 + k * 10 + 8, none⟩ = some (.int .i64 to) := HCY.out wx hx 8 _ rfl; have d9 : wx.cell? ⟨g0, o0 + k * 10 + 9, none⟩ = some (.slice ta tn tc) := HCY.out wx hx 9 _ rfl; clear hx; go_simp) ?_
        simp only [zp]
        refine zxn ?_
        refine zw 16 [] (by kernel_rfl) ?_
        refine readyZ.call rfl rfl (Rf12 (by rfl) (by rfl) (by simp only [zj]; rfl)) HPut.out ?_ readyZ.nil
        rintro e1 V ⟨rfl, hpf⟩
        refine ⟨_, rfl, fun h => absurd (by decide) h, ?_⟩
        refine zq 17 (by kernel_rfl) rfl rfl (v' := .bool false) (w' := V) (by go_simp) (fun h => absurd (by decide) h) ?_
        refine anyZ_done (by kernel_rfl) ?_ _
        dsimp only [Only, Exit.then]
        obtain ⟨ov1, F1, hI1, hB1⟩ := HIY.out.1.prog HIY.out.2.size hpf
        have BV := HIY.out.2.trans hB1
        obtain ⟨Y2, hY2⟩ : ∃ Y, V.drew = Y := ⟨_, rfl⟩
        have BY2 : Below V.heap.size V Y2 := by rw [← hY2]; exact (Below.refl _ _).drew
        have BYw2 : Below w.heap.size w Y2 := BV.trans (BY2.mono BV.size)
        have HIY2 := hide (And.intro (hI1.upto BY2) BYw2)
        have HCY2 : Hid (∀ wx, Below Y2.heap.size Y2 wx → ∀ j u, (acCs ⟨false, tq, te, to, ta, tn, tc, tP⟩)[j]? = some u → wx.cell? ⟨g0, o0 + k * 10 + j, none⟩ = some u) := fun wx hx => HC.out wx (BYw2.trans (hx.mono BYw2.size))
        have hput := rput_is HIY2.out.1.rc tq te (o := to) (HT.out.2.1.low HIY2.out.2 (Nat.le_refl _)) HT.out.2.2 (fun g hne hg hs => by
          have h1 := HIY2.out.1.ld
          have h2 := CeR.blk HT.out.2.1 hne hg
          omega)
        have HPut2 := hide hput
        have HY2 := hide hY2
        clear hput hpf hI1 hB1 BV hY2 BY2 BYw2 HPut HIY HCY
        gi_wp2_with fail
        refine wpIn_only ?_
        refine wpIn_region_zW (S := fun wx => Below Y2.heap.size Y2 wx) [16] (by kernel_rfl) ?_
        rw [HY2.out]
        refine zx 0 16 20 rfl (by kernel_rfl) (Below.refl _ _) ?_
        refine zxc (v := ptr W1.heap.size) rfl (by rfl) (fun wx hx => by have p0 := (HIY2.out.1.bb.upto hx).cell 0 _ rfl; clear hx; go_simp) ?_
        simp only [zp]
        iterate 4 (refine zxc rfl (by rfl) (fun wx hx => by go_simp; rfl) ?_; simp only [zp])
        refine zxc (v := kv tq) rfl (by rfl) (fun wx hx => by
          have d1 : wx.cell? ⟨g0, o0 + k * 10 + 1, none⟩ = some (.int .i64 tq.1) := HCY2.out wx hx 1 _ rfl
          have d2 : wx.cell? ⟨g0, o0 + k * 10 + 2, none⟩ = some (.int .i64 tq.2.1) := HCY2.out wx hx 2 _ rfl
          have d3 : wx.cell? ⟨g0, o0 + k * 10 + 3, none⟩ = some (.int .i64 tq.2.2.1) := HCY2.out wx hx 3 _ rfl
          have d4 : wx.cell? ⟨g0, o0 + k * 10 + 4, none⟩ = some (.int .i64 tq.2.2.2.1) := HCY2.out wx hx 4 _ rfl
          have d5 : wx.cell? ⟨g0, o0 + k * 10 + 5, none⟩ = some (.int .i64 tq.2.2.2.2.1) := HCY2.out wx hx 5 _ rfl
          have d6 : wx.cell? ⟨g0, o0 + k * 10 + 6, none⟩ = some (.int .i64 tq.2.2.2.2.2) := HCY2.out wx hx 6 _ rfl
          clear hx; go_simp) ?_
        simp only [zp]
        iterate 4 (refine zxc rfl (by rfl) (fun wx hx => by go_simp; rfl) ?_; simp only [zp])
        refine zxc (v := .int .i64 te) rfl (by rfl) (fun wx hx => by have d7 : wx.cell? ⟨g0, o0 + k * 10 + 7, none⟩ = some (.int .i64 te) := HCY2.out wx hx 7 _ rfl; clear hx; go_simp) ?_
        simp only [zp]
        iterate 4 (refine zxc rfl (by rfl) (fun wx hx => by go_simp; rfl) ?_; simp only [zp])
        refine zxc (v := wy to (.slice ta tn tc)) rfl (by rfl) (fun wx hx => by have d8 : wx.cell? ⟨g0, o0 + k * 10 + 8, none⟩ = some (.int .i64 to) := HCY2.out wx hx 8 _ rfl; have d9 : wx.cell? ⟨g0, o0 + k * 10 + 9, none⟩ = some (.slice ta tn tc) := HCY2.out wx hx 9 _ rfl; clear hx; go_simp) ?_
        simp only [zp]
        refine zxn ?_
        refine zw 16 [] (by kernel_rfl) ?_
        refine readyZ.call rfl rfl (Rf13 (by rfl) (by rfl) (by simp only [zj]; rfl)) HPut2.out ?_ readyZ.nil
        rintro e1 V2 ⟨⟨z, rfl⟩, hpf⟩
        refine ⟨_, rfl, fun h => absurd (by decide) h, ?_⟩
        refine anyZ_done (by kernel_rfl) ?_ _
        dsimp only [Only, Exit.then]
        obtain ⟨kx2, wx2, U2, hI2, hB2⟩ := HIY2.out.1.ref HIY2.out.2.size hpf
        have HE := hide (And.intro hI2 (HIY2.out.2.trans hB2))
        clear hpf hI2 hB2 HIY2 HCY2 HPut2 HY2 c0
        gi_wp2_with fail
        go_roundw
        case rel => exact ⟨k + 1, by omega, by go_num, _, _, _, _, _, _, _, HE.out⟩
        case measure => simp [intOf]; omega
      · skip
        obtain ⟨rb, ro, rP, hr⟩ : ∃ b o P, getA ep L tq te = (b, o, P) := ⟨_, _, _, rfl⟩
        have HG1 : Hid (∀ W, Below Y.heap.size Y W → Calls Try.prog 9 #[ptr c, kv tq, .int .i64 te] W (GtE W (rb, ro, rP))) := fun W hW => by
          have := get_is (HIY.out.1.pc.upto hW) HT.out.1 te
          rwa [hr] at this
        gi_wp2_with fail
        refine wpIn_only ?_
        refine wpIn_region_zW (S := fun wx => Below Y.heap.size Y wx) [] (by kernel_rfl) ?_
        rw [HY.out]
        refine zx 0 11 20 rfl (by kernel_rfl) (Below.refl _ _) ?_
        iterate 5 (refine zxc rfl (by rfl) (fun wx hx => by go_simp; rfl) ?_; simp only [zp])
        refine zxc (v := kv tq) rfl (by rfl) (fun wx hx => by
          have d1 : wx.cell? ⟨g0, o0 + k * 10 + 1, none⟩ = some (.int .i64 tq.1) := HCY.out wx hx 1 _ rfl
          have d2 : wx.cell? ⟨g0, o0 + k * 10 + 2, none⟩ = some (.int .i64 tq.2.1) := HCY.out wx hx 2 _ rfl
          have d3 : wx.cell? ⟨g0, o0 + k * 10 + 3, none⟩ = some (.int .i64 tq.2.2.1) := HCY.out wx hx 3 _ rfl
          have d4 : wx.cell? ⟨g0, o0 + k * 10 + 4, none⟩ = some (.int .i64 tq.2.2.2.1) := HCY.out wx hx 4 _ rfl
          have d5 : wx.cell? ⟨g0, o0 + k * 10 + 5, none⟩ = some (.int .i64 tq.2.2.2.2.1) := HCY.out wx hx 5 _ rfl
          have d6 : wx.cell? ⟨g0, o0 + k * 10 + 6, none⟩ = some (.int .i64 tq.2.2.2.2.2) := HCY.out wx hx 6 _ rfl
          clear hx; go_simp) ?_
        simp only [zp]
        iterate 4 (refine zxc rfl (by rfl) (fun wx hx => by go_simp; rfl) ?_; simp only [zp])
        refine zxc (v := .int .i64 te) rfl (by rfl) (fun wx hx => by have d7 : wx.cell? ⟨g0, o0 + k * 10 + 7, none⟩ = some (.int .i64 te) := HCY.out wx hx 7 _ rfl; clear hx; go_simp) ?_
        simp only [zp]
        refine zxn ?_
        refine zw 11 [15] (by kernel_rfl) ?_
        refine readyZ.call rfl rfl (Rf9 (by rfl) (by rfl) (by simp only [zj]; rfl)) (HG1.out Y (Below.refl _ _)) ?_ (readyZ.cons (v' := ptr Y.heap.size) (w' := Y.alloc (.cells #[.int .i64 0, .slice none 0 0] 39)) rfl rfl (by go_simp) (fun _ => box1 _ _) ?_ readyZ.nil)
        rintro e1 V1 ⟨v1, rfl, hv1, -, hb⟩
        refine ⟨_, rfl, fun _ => hb, ?_⟩
        obtain ⟨a1, n1, c1, rfl⟩ := hv1.shape
        refine zx 12 3 20 rfl (by kernel_rfl) hb ?_
        iterate 3 (refine zxc rfl (by rfl) (fun wx hx => by go_simp; rfl) ?_; simp only [zp])
        refine zxn ?_
        refine zq 15 (by kernel_rfl) rfl rfl (v' := ptr V1.heap.size) (w' := V1.alloc (.cells #[.int .i64 0, .slice none 0 0] 39)) (by go_simp) (fun _ => hb.trans ((box1 V1 _).mono hb.size)) ?_
        obtain ⟨A, hA⟩ : ∃ A, V1.alloc (.cells #[.int .i64 0, .slice none 0 0] 39) = A := ⟨_, rfl⟩
        have BA : Below V1.heap.size V1 A := by rw [← hA]; exact box1 _ _
        have KA : Bk A V1.heap.size 39 [.int .i64 0, .slice none 0 0] := by rw [← hA]; exact Bk.new _ _ _
        have hzb := hb.size
        obtain ⟨bw, hbw⟩ : ∃ z, V1.heap.size = z := ⟨_, rfl⟩
        rw [hA]
        rw [hbw] at KA ⊢
        have HA := hide (And.intro KA <| And.intro (hb.trans (BA.mono hb.size)) <| And.intro (hv1.upto BA) (hbw ▸ hzb))
        clear hA BA KA hv1 hb hbw hzb
        rotate_left 1
        obtain ⟨A1, hA1⟩ : ∃ A, Y.alloc (.cells #[.int .i64 0, .slice none 0 0] 39) = A := ⟨_, rfl⟩
        have BA1 : Below Y.heap.size Y A1 := by rw [← hA1]; exact box1 _ _
        have KA1 : Bk A1 Y.heap.size 39 [.int .i64 0, .slice none 0 0] := by rw [← hA1]; exact Bk.new _ _ _
        rw [hA1]
        clear hA1
        refine zw 11 [] (by kernel_rfl) ?_
        refine readyZ.call rfl rfl (Rf9 (by rfl) (by rfl) (by simp only [zj]; rfl)) (HG1.out A1 BA1) ?_ readyZ.nil
        rintro e1 A ⟨v1, rfl, hv1, -, hb⟩
        refine ⟨_, rfl, fun _ => BA1.trans (hb.mono BA1.size), ?_⟩
        obtain ⟨a1, n1, c1, rfl⟩ := hv1.shape
        refine zx 12 3 20 rfl (by kernel_rfl) (BA1.trans (hb.mono BA1.size)) ?_
        iterate 3 (refine zxc rfl (by rfl) (fun wx hx => by go_simp; rfl) ?_; simp only [zp])
        refine zxn ?_
        obtain ⟨bw, hbw⟩ : ∃ z, Y.heap.size = z := ⟨_, rfl⟩
        have KA := KA1.upto hb
        have hS2 := BA1.trans (hb.mono BA1.size)
        have hle : Y.heap.size ≤ bw := by omega
        rw [hbw] at KA
        have HA := hide (And.intro KA <| And.intro hS2 <| And.intro hv1 hle)
        clear BA1 KA1 KA hv1 hb hS2 hle
        have hgo : ∀ (p : Nat), p = bw → ptr p = ptr bw := fun p h => by rw [h]
        have HBW : Hid (Y.heap.size = bw) := hbw
        simp only [hbw]
        clear hbw hgo
        all_goals
          obtain ⟨hA1, hA2, hA3, hA4⟩ := HA.out
          have a0 := hA1.cell 0 _ rfl
          have a1' := hA1.cell 1 _ rfl
          have f0 := hA1.frozen 0
          have f1 := hA1.frozen 1
          obtain ⟨V, hV⟩ : ∃ V, (A.setCell ⟨bw, 0, none⟩ (.int .i64 ro)).setCell ⟨bw, 1, none⟩ (.slice a1 n1 c1) = V := ⟨_, rfl⟩
          have TV : Turns (fun g => g = bw) A V := by rw [← hV]; exact (Turns.set (S := fun g => g = bw) A rfl _).trans (Turns.set _ (.inl rfl) _)
          have KV : Bk V bw 39 [.int .i64 ro, .slice a1 n1 c1] := by rw [← hV]; exact (hA1.set 0 _).set 1 _
          have BV : Below Y.heap.size Y V := hA2.trans (TV.below (B := Y.heap.size) (fun g hg => hg ▸ hA4) hA2.size)
          have CV : Cn V (.slice a1 n1 c1) rP := hA3.stay TV (fun g hg cur hc => by subst hg; have := hA1.symm.trans hc; simp at this)
          have HV := hide hV
          refine zw 16 [] (by kernel_rfl) ?_
          refine readyZ.skip (w' := V) rfl rfl (by rw [← HV.out]; go_simp) (fun h => by first | exact BV | (rw [← HBW.out]; exact BV)) ?_ readyZ.nil
          refine zq 17 (by kernel_rfl) rfl rfl (run_as rfl rfl) (fun h => by first | exact BV | (rw [← HBW.out]; exact BV)) ?_
          refine anyZ_done (by kernel_rfl) ?_ _
          dsimp only [Only, Exit.then]
          have HV1 : Hid (Bk V bw 39 [.int .i64 ro, .slice a1 n1 c1] ∧ Cn V (.slice a1 n1 c1) rP) := ⟨KV, CV⟩
          have HIV := hide (And.intro (HIY.out.1.upto BV) (HIY.out.2.trans (BV.mono HIY.out.2.size)))
          clear hA1 hA2 hA3 hA4 a0 a1' f0 f1 hV TV KV BV CV HV HA HIY HCY HY HG1 c0
          obtain ⟨bq, hbq⟩ : ∃ z, bw = z := ⟨_, rfl⟩
          obtain ⟨a9, ha9⟩ : ∃ z, a1 = z := ⟨_, rfl⟩
          obtain ⟨n9, hn9⟩ : ∃ z, n1 = z := ⟨_, rfl⟩
          obtain ⟨c9, hc9⟩ : ∃ z, c1 = z := ⟨_, rfl⟩
          subst hbq ha9 hn9 hc9
          obtain ⟨Y, hY⟩ : ∃ Y, V.drew = Y := ⟨_, rfl⟩
          have BY : Below V.heap.size V Y := by rw [← hY]; exact (Below.refl _ _).drew
          have HIY := hide (And.intro (HIV.out.1.upto BY) (HIV.out.2.trans (BY.mono HIV.out.2.size)))
          have HVY := hide (And.intro (HV1.out.1.upto BY) (Rw.upto HV1.out.2 BY))
          have HCY : Hid (∀ wx, Below Y.heap.size Y wx → ∀ j u, (acCs ⟨true, tq, te, to, ta, tn, tc, tP⟩)[j]? = some u → wx.cell? ⟨g0, o0 + k * 10 + j, none⟩ = some u) := fun wx hx => HC.out wx (HIY.out.2.trans (hx.mono HIY.out.2.size))
          have HG2 : Hid (∀ W, Below Y.heap.size Y W → Calls Try.prog 10 #[ptr W1.heap.size, kv tq, .int .i64 te] W (RgE W (rb, ro, rP))) := fun W hW => by
            have := refget_is (HIY.out.1.rc.upto hW) tq te
            rwa [hr] at this
          have HY := hide hY
          clear hY BY HIV HV1
          gi_wp2_with fail
          refine wpIn_only ?_
          refine wpIn_region_zW (S := fun wx => Below Y.heap.size Y wx) [] (by kernel_rfl) ?_
          rw [HY.out]
          refine zx 0 11 20 rfl (by kernel_rfl) (Below.refl _ _) ?_
          refine zxc (v := ptr W1.heap.size) rfl (by rfl) (fun wx hx => by have p0 := (HIY.out.1.bb.upto hx).cell 0 _ rfl; clear hx; go_simp) ?_
          simp only [zp]
          iterate 4 (refine zxc rfl (by rfl) (fun wx hx => by go_simp; rfl) ?_; simp only [zp])
          refine zxc (v := kv tq) rfl (by rfl) (fun wx hx => by
            have d1 : wx.cell? ⟨g0, o0 + k * 10 + 1, none⟩ = some (.int .i64 tq.1) := HCY.out wx hx 1 _ rfl
            have d2 : wx.cell? ⟨g0, o0 + k * 10 + 2, none⟩ = some (.int .i64 tq.2.1) := HCY.out wx hx 2 _ rfl
            have d3 : wx.cell? ⟨g0, o0 + k * 10 + 3, none⟩ = some (.int .i64 tq.2.2.1) := HCY.out wx hx 3 _ rfl
            have d4 : wx.cell? ⟨g0, o0 + k * 10 + 4, none⟩ = some (.int .i64 tq.2.2.2.1) := HCY.out wx hx 4 _ rfl
            have d5 : wx.cell? ⟨g0, o0 + k * 10 + 5, none⟩ = some (.int .i64 tq.2.2.2.2.1) := HCY.out wx hx 5 _ rfl
            have d6 : wx.cell? ⟨g0, o0 + k * 10 + 6, none⟩ = some (.int .i64 tq.2.2.2.2.2) := HCY.out wx hx 6 _ rfl
            clear hx; go_simp) ?_
          simp only [zp]
          iterate 4 (refine zxc rfl (by rfl) (fun wx hx => by go_simp; rfl) ?_; simp only [zp])
          refine zxc (v := .int .i64 te) rfl (by rfl) (fun wx hx => by have d7 : wx.cell? ⟨g0, o0 + k * 10 + 7, none⟩ = some (.int .i64 te) := HCY.out wx hx 7 _ rfl; clear hx; go_simp) ?_
          simp only [zp]
          refine zxn ?_
          refine zw 11 [15] (by kernel_rfl) ?_
          refine readyZ.call rfl rfl (Rf10 (by rfl) (by rfl) (by simp only [zj]; rfl)) (HG2.out Y (Below.refl _ _)) ?_ (readyZ.cons (v' := ptr Y.heap.size) (w' := Y.alloc (.cells #[.int .i64 0, .slice none 0 0] 39)) rfl rfl (by go_simp) (fun _ => box1 _ _) ?_ readyZ.nil)
          rintro e1 V1 ⟨v2, rfl, hv2, hb⟩
          refine ⟨_, rfl, fun _ => hb, ?_⟩
          obtain ⟨a2, n2, c2, rfl⟩ := hv2.shape
          refine zx 12 3 20 rfl (by kernel_rfl) hb ?_
          iterate 3 (refine zxc rfl (by rfl) (fun wx hx => by go_simp; rfl) ?_; simp only [zp])
          refine zxn ?_
          refine zq 15 (by kernel_rfl) rfl rfl (v' := ptr V1.heap.size) (w' := V1.alloc (.cells #[.int .i64 0, .slice none 0 0] 39)) (by go_simp) (fun _ => hb.trans ((box1 V1 _).mono hb.size)) ?_
          obtain ⟨A, hA⟩ : ∃ A, V1.alloc (.cells #[.int .i64 0, .slice none 0 0] 39) = A := ⟨_, rfl⟩
          have BA : Below V1.heap.size V1 A := by rw [← hA]; exact box1 _ _
          have KA : Bk A V1.heap.size 39 [.int .i64 0, .slice none 0 0] := by rw [← hA]; exact Bk.new _ _ _
          have hzb := hb.size
          obtain ⟨bx, hbx⟩ : ∃ z, V1.heap.size = z := ⟨_, rfl⟩
          rw [hA]
          rw [hbx] at KA ⊢
          have HA := hide (And.intro KA <| And.intro (hb.trans (BA.mono hb.size)) <| And.intro (hv2.upto BA) (hbx ▸ hzb))
          clear hA BA KA hv2 hb hbx hzb
          rotate_left 1
          obtain ⟨A1, hA1⟩ : ∃ A, Y.alloc (.cells #[.int .i64 0, .slice none 0 0] 39) = A := ⟨_, rfl⟩
          have BA1 : Below Y.heap.size Y A1 := by rw [← hA1]; exact box1 _ _
          have KA1 : Bk A1 Y.heap.size 39 [.int .i64 0, .slice none 0 0] := by rw [← hA1]; exact Bk.new _ _ _
          rw [hA1]
          clear hA1
          refine zw 11 [] (by kernel_rfl) ?_
          refine readyZ.call rfl rfl (Rf10 (by rfl) (by rfl) (by simp only [zj]; rfl)) (HG2.out A1 BA1) ?_ readyZ.nil
          rintro e1 A ⟨v2, rfl, hv2, hb⟩
          refine ⟨_, rfl, fun _ => BA1.trans (hb.mono BA1.size), ?_⟩
          obtain ⟨a2, n2, c2, rfl⟩ := hv2.shape
          refine zx 12 3 20 rfl (by kernel_rfl) (BA1.trans (hb.mono BA1.size)) ?_
          iterate 3 (refine zxc rfl (by rfl) (fun wx hx => by go_simp; rfl) ?_; simp only [zp])
          refine zxn ?_
          obtain ⟨bx, hbx⟩ : ∃ z, Y.heap.size = z := ⟨_, rfl⟩
          have KA := KA1.upto hb
          have hS2 := BA1.trans (hb.mono BA1.size)
          have hle : Y.heap.size ≤ bx := by omega
          rw [hbx] at KA
          have HA := hide (And.intro KA <| And.intro hS2 <| And.intro hv2 hle)
          clear BA1 KA1 KA hv2 hb hS2 hle
          have hgo : ∀ (p : Nat), p = bx → ptr p = ptr bx := fun p h => by rw [h]
          have HBW : Hid (Y.heap.size = bx) := hbx
          simp only [hbx]
          clear hbx hgo
          all_goals
            obtain ⟨hA1, hA2, hA3, hA4⟩ := HA.out
            have a0 := hA1.cell 0 _ rfl
            have a2' := hA1.cell 1 _ rfl
            have f0 := hA1.frozen 0
            have f1 := hA1.frozen 1
            obtain ⟨V, hV⟩ : ∃ V, (A.setCell ⟨bx, 0, none⟩ (.int .i64 ro)).setCell ⟨bx, 1, none⟩ (.slice a2 n2 c2) = V := ⟨_, rfl⟩
            have TV : Turns (fun g => g = bx) A V := by rw [← hV]; exact (Turns.set (S := fun g => g = bx) A rfl _).trans (Turns.set _ (.inl rfl) _)
            have KV : Bk V bx 39 [.int .i64 ro, .slice a2 n2 c2] := by rw [← hV]; exact (hA1.set 0 _).set 1 _
            have BV : Below Y.heap.size Y V := hA2.trans (TV.below (B := Y.heap.size) (fun g hg => hg ▸ hA4) hA2.size)
            have CV : Cn V (.slice a2 n2 c2) rP := hA3.stay TV (fun g hg cur hc => by subst hg; have := hA1.symm.trans hc; simp at this)
            have HV := hide hV
            refine zw 16 [] (by kernel_rfl) ?_
            refine readyZ.skip (w' := V) rfl rfl (by rw [← HV.out]; go_simp) (fun h => by first | exact BV | (rw [← HBW.out]; exact BV)) ?_ readyZ.nil
            refine zq 17 (by kernel_rfl) rfl rfl (run_as rfl rfl) (fun h => by first | exact BV | (rw [← HBW.out]; exact BV)) ?_
            refine anyZ_done (by kernel_rfl) ?_ _
            dsimp only [Only, Exit.then]
            have HV2 : Hid (Bk V bx 39 [.int .i64 ro, .slice a2 n2 c2] ∧ Cn V (.slice a2 n2 c2) rP) := ⟨KV, CV⟩
            have HV1 := hide (And.intro (HVY.out.1.upto BV) (Rw.upto HVY.out.2 BV))
            have HE := hide (And.intro (HIY.out.1.upto BV) (HIY.out.2.trans (BV.mono HIY.out.2.size)))
            have HS := hide (same_yes ro (.slice a1 n1 c1) (.slice a2 n2 c2) rP V (Cn.ceR HV1.out.2) (Cn.ceR HV2.out.2))
            have u0 := HV1.out.1.cell 0 _ rfl
            have u1 := HV1.out.1.cell 1 _ rfl
            have w0 := HV2.out.1.cell 0 _ rfl
            have w1 := HV2.out.1.cell 1 _ rfl
            clear hA1 hA2 hA3 hA4 a0 a2' f0 f1 hV TV KV BV CV HV HA HIY HCY HY HG2 HVY
            gi_wp2_with fail
            refine ⟨trivial, ?_⟩
            refine (callsIn_wide.2 HS.out).mono ?_
            rintro e1 V3 ⟨rfl, hb3⟩
            have HF := hide (And.intro (HE.out.1.upto hb3) (HE.out.2.trans (hb3.mono HE.out.2.size)))
            clear u0 u1 w0 w1 hb3 HE HS
            gi_wp2_with fail
            go_roundw
            case rel => exact ⟨k + 1, by omega, by go_num, _, _, _, _, _, _, _, HF.out⟩
            case measure => simp [intOf]; omega
    · obtain rfl : k = l.length := by omega
      have hki : ¬ ((l.length : Nat) : Int) < (l.length : Nat) := by omega
      clear HI HB1 HW3
      gi_wp2_with fail
      refine ⟨trivial, ?_⟩
      refine (callsIn_wide.2 (all_fn (some ⟨c, 0, none⟩) _)).mono ?_
      rintro e wA ⟨rfl, rfl⟩
      gi_wp2_with fail
      obtain ⟨V, hV⟩ : ∃ V, (wr.alloc (.cells #[.int .i64 0] 3)).alloc (.cells #[ptr c] 24) = V := ⟨_, rfl⟩
      have BV : Below wr.heap.size wr V := by rw [← hV]; exact box2 _ _ _
      have bxV : Boxed V (wr.heap.size + 1) 24 (ptr c) := by
        rw [← hV]
        have := Boxed.new (wr.alloc (.cells #[.int .i64 0] 3)) 24 (ptr c)
        simpa using this
      have nV : Bk V wr.heap.size 3 [.int .i64 0] := by rw [← hV]; exact (Bk.new wr 3 [.int .i64 0]).upto (box1 _ _)
      have zV : V.heap.size = wr.heap.size + 2 := by rw [← hV]; simp
      have LV := hI.upto BV
      have BwV : Below w.heap.size w V := hB.trans (BV.mono hB.size)
      have hwn : w.heap.size ≤ wr.heap.size := hB.size
      rw [hV]
      clear hV
      have HLV := hide (And.intro LV <| And.intro BwV <| And.intro nV <| And.intro zV hwn)
      refine range_all (n := 10) (by omega) (by rfl) bxV LV.pc (by rfl) (fun pre X => Turns (fun k => k = wr.heap.size) V X ∧ Bk X wr.heap.size 3 [.int .i64 (pre.length : Nat)])
        (fun pre X Y h ht => ⟨h.1.trans (ht.mono (fun k hk s => .inr (by omega))), h.2.kept ht (by omega)⟩) (fun W hW => ⟨Turns.of_below hW, nV.upto hW⟩)
        (fun pre X h x hx v hF => by
          obtain ⟨v2, e1, e2⟩ := LV.pc.way x hx
          rw [hF] at e1
          obtain rfl : v = v2 := by simpa using e1
          exact e2.stay h.1 (fun g hg cur hc => by subst hg; have := nV.symm.trans hc; simp at this))
        (fun x v a' X => ∃ b1 b2, (Bk X b1 36 (kCs x.1) ∧ Bk X b2 39 [.int .i64 x.2.1, v] ∧ Cn X v x.2.2) ∧ (V.heap.size + 2 ≤ b1 ∧ V.heap.size + 2 ≤ b2 ∧ ∀ g, v.ownBlock = some g → V.heap.size + 2 ≤ g) ∧ a' = { tmps := #[Value.int IntKind.i64 room, Value.slice al l.length cl, undef, undef, ptr w.heap.size, ptr c, Value.int IntKind.i64 0, ptr W2.heap.size, Value.int IntKind.i64 0, Value.int IntKind.i64 ↑l.length, u10, u11, u12, u13, ptr wr.heap.size, ptr b1, ptr b2, Value.bool true, Value.bool false, Value.tuple #[ptr c, Value.int IntKind.i64 0], Value.int IntKind.i64 room, Value.tuple #[ptr c, Value.int IntKind.i64 0], ptr c, Value.int IntKind.i64 0, Value.tuple #[ptr W1.heap.size, Value.int IntKind.i64 0], Value.int IntKind.i64 room, Value.tuple #[ptr W1.heap.size, Value.int IntKind.i64 0], ptr W1.heap.size, Value.int IntKind.i64 0, Value.int IntKind.i64 0, Value.int IntKind.i64 0, Value.bool false, Value.bool false, ptr c, Value.bool true, Value.int IntKind.i64 0, Value.bool true, Value.bool false, Value.bool false, Value.int IntKind.i64 0, Value.bool false, undef, Value.int IntKind.i64 ↑l.length, Value.slice al l.length cl, Value.int IntKind.i64 ↑l.length, Value.bool false, u46, u47, u48, u49, u50, u51, u52, u53, u54, u55, u56, u57, u58, u59, u60, u61, u62, u63, u64, u65, u66, u67, u68, u69, u70, u71, u72, u73, u74, u75, u76, u77, u78, u79, u80, u81, u82, u83, u84, u85, u86, u87, u88, u89, u90, u91, u92, u93, u94, u95, u96, u97, u98, u99, u100, u101, u102, u103, u104, u105, u106, u107, u108, u109, u110, u111, u112, u113, u114, u115, u116, u117, u118, u119, u120, u121, u122, u123, u124, u125, u126, ptr c, Value.func (Fn.func 22) #[] #[ptr (wr.heap.size + 1)], kv x.1, wy x.2.1 v, undef, undef, undef, undef, undef, undef, undef, undef, undef, undef, undef, undef, undef, undef, undef, undef, undef, undef, undef, undef, undef, undef, undef, undef, undef, undef, undef, undef, undef, undef, undef, undef, undef, undef, undef, undef, undef, undef, undef, undef, undef, undef, undef, undef, undef, undef, undef, undef], defers := [] })
        (fun x v a' X Y h ht => by
          obtain ⟨b1, b2, ⟨h1, h2, h3⟩, ⟨h4, h5, h6⟩, h7⟩ := h
          exact ⟨b1, b2, ⟨h1.kept ht (by omega), h2.kept ht (by omega), h3.kept ht (fun g hg hh => by have := h6 g hg; omega)⟩, ⟨h4, h5, h6⟩, h7⟩)
        ?assign ?body ?done
      case assign =>
        rintro l' pre x a2 n2 c2 W K hIW hpre hcn hown hsz hK
        have hVW := hIW.1.size
        have HZV := hide zV
        clear zV
        gi_wp2
        refine hK _ _ (box2 _ _ _) ⟨hIW.1.trans (Turns.of_below (box2 _ _ _)), hIW.2.upto (box2 _ _ _)⟩ ⟨W.heap.size, W.heap.size + 1, ⟨(Bk.new W 36 (kCs x.1)).upto (box1 _ _), Bk.new2 _ _ _ _, hcn.upto (box2 _ _ _)⟩, ⟨?_, ?_, hown⟩, ?_⟩
        · exact hsz
        · omega
        · rfl
      case body =>
        rintro l' pre x a2 n2 c2 a' W hl' hIW ⟨b1, b2, ⟨h1, h2, h3⟩, ⟨h4, h5, h6⟩, rfl⟩ hpre
        have HZV := hide zV
        have hVW := hIW.1.size
        have hnbV : wr.heap.size < V.heap.size := by omega
        clear zV
        obtain ⟨Y, hY⟩ : ∃ Y, W.drew = Y := ⟨_, rfl⟩
        have BY : Below W.heap.size W Y := by rw [← hY]; exact (Below.refl _ _).drew
        have TY : Turns (fun k => k = wr.heap.size) V Y := hIW.1.down (BY.mono hIW.1.size)
        have LY : LI w.heap.size w.heap.size W2.heap.size c m W1.heap.size room ov kx wx ep F L ep U L Y := LV.turn3 TY nV
        have N1 := hIW.2.upto BY
        have H1 := h1.upto BY
        have H2 := h2.upto BY
        have H3 : Cn Y (.slice a2 n2 c2) x.2.2 := h3.upto BY
        have hpl : pre.length < L.length := by
          obtain ⟨r, hr⟩ := hpre
          rw [← hr]
          simp
        have hx : L[pre.length]? = some x := by
          obtain ⟨r, hr⟩ := hpre
          rw [← hr]
          simp
        have hxk : (ks L)[pre.length]? = some x.1 := by rw [ks, List.getElem?_map, hx]; rfl
        obtain ⟨gk, ck, ek, hck, hgk, hcsk⟩ := Rw.elt kCs_len LY.rc.keys hxk
        obtain ⟨u, hu⟩ : ∃ u, U[pre.length]? = some u := ⟨_, List.getElem?_eq_getElem (by rw [LY.rc.len]; exact hpl)⟩
        obtain ⟨gw, cw, ew, hcw, hgw, hcsw⟩ := Rw.elt wCs_len LY.rc.ways hu
        obtain ⟨hu1, hu2⟩ := LY.rc.way _ _ _ hu hx
        obtain ⟨uo, ua, un, uc⟩ := u
        dsimp only at hu1
        subst hu1
        have hS := same_yes x.2.1 (.slice ua un uc) (.slice a2 n2 c2) x.2.2 Y (Cn.ceR hu2) (Cn.ceR H3)
        have n0 := N1.cell 0 _ rfl
        have p0 := LY.bb.cell 0 _ rfl
        have r2 := LY.rc.blk.cell 2 _ rfl
        have r3 := LY.rc.blk.cell 3 _ rfl
        rw [ek] at r2
        rw [ew] at r3
        have hlk : (ks L).length = L.length := by simp
        have hlu := LY.rc.len
        rw [hlk] at r2
        rw [hlu] at r3
        have y0 : Y.cell? ⟨gk, pre.length * 6, none⟩ = some (.int .i64 x.1.1) := by have := hcsk 0 _ rfl; rwa [Nat.add_zero] at this
        have y1 : Y.cell? ⟨gk, pre.length * 6 + 1, none⟩ = some (.int .i64 x.1.2.1) := hcsk 1 _ rfl
        have y2 : Y.cell? ⟨gk, pre.length * 6 + 2, none⟩ = some (.int .i64 x.1.2.2.1) := hcsk 2 _ rfl
        have y3 : Y.cell? ⟨gk, pre.length * 6 + 3, none⟩ = some (.int .i64 x.1.2.2.2.1) := hcsk 3 _ rfl
        have y4 : Y.cell? ⟨gk, pre.length * 6 + 4, none⟩ = some (.int .i64 x.1.2.2.2.2.1) := hcsk 4 _ rfl
        have y5 : Y.cell? ⟨gk, pre.length * 6 + 5, none⟩ = some (.int .i64 x.1.2.2.2.2.2) := hcsk 5 _ rfl
        have z0 : Y.cell? ⟨gw, pre.length * 2, none⟩ = some (.int .i64 x.2.1) := by have := hcsw 0 _ rfl; rwa [Nat.add_zero] at this
        have z1 : Y.cell? ⟨gw, pre.length * 2 + 1, none⟩ = some (.slice ua un uc) := hcsw 1 _ rfl
        have k0' := H1.cell 0 _ rfl
        have k1 := H1.cell 1 _ rfl
        have k2 := H1.cell 2 _ rfl
        have k3 := H1.cell 3 _ rfl
        have k4 := H1.cell 4 _ rfl
        have k5 := H1.cell 5 _ rfl
        have w0 := H2.cell 0 _ rfl
        have w1 := H2.cell 1 _ rfl
        have hL256 : L.length ≤ 256 := by have h1 := LY.rc.rm; have h2 := LY.rc.le; omega
        have hi0 : (0 : Int) ≤ (pre.length : Nat) ∧ ((pre.length : Nat) : Int) < (L.length : Nat) ∧ ¬ ((L.length : Nat) : Int) ≤ (pre.length : Nat) := by omega
        have hge : decide (((L.length : Nat) : Int) ≤ (pre.length : Nat)) = false := decide_eq_false (by omega)
        have HS := hide hS
        have HY := hide hY
        have HK := hide (And.intro TY <| And.intro BY <| And.intro hIW.1 N1)
        clear LY H1 H2 H3 hx hxk hcsk hcsw hu hu2 hS hY TY BY h1 h2 h3 N1 ek ew hck hgk hcw hgw hlk hlu
        gi_wp2_with fail
        refine wpIn_only ?_
        refine wpIn_region_zR (fun wx : World => wx = Y) [27, 28, 29] only_in (by kernel_rfl) (by kernel_rfl) ?_
        rw [HY.out]
        refine zx 0 6 30 rfl (by kernel_rfl) rfl ?_
        iterate 6 (refine zxc rfl (by rfl) (fun wx hx => by subst hx; go_simp; rfl) ?_; simp only [zp])
        refine zxn ?_
        refine zx 6 21 30 rfl (by kernel_rfl) rfl ?_
        refine zxc (v := .bool false) rfl (by rfl) (fun wx hx => by subst hx; go_simp) ?_
        simp only [zp]
        iterate 1 (refine zxc rfl (by rfl) (fun wx hx => by subst hx; go_simp; rfl) ?_; simp only [zp])
        iterate 4 (refine zxc rfl (by rfl) (fun wx hx => by subst hx; go_simp; rfl) ?_; simp only [zp])
        iterate 2 (refine zxc rfl (by rfl) (fun wx hx => by subst hx; go_simp; rfl) ?_; simp only [zp])
        refine zxc (v := kv x.1) rfl (by rfl) (fun wx hx => by subst hx; go_simp) ?_
        simp only [zp]
        refine zxc (v := kv x.1) rfl (by rfl) (fun wx hx => by subst hx; go_simp) ?_
        simp only [zp]
        refine zxc (v := .bool false) rfl (by rfl) (fun wx hx => by exact run_neS (a := x.1) rfl rfl rfl) ?_
        simp only [zp]
        refine zxc (v := .bool false) rfl (by rfl) (fun wx hx => by subst hx; go_simp) ?_
        simp only [zp]
        iterate 1 (refine zxc rfl (by rfl) (fun wx hx => by subst hx; go_simp; rfl) ?_; simp only [zp])
        iterate 6 (refine zxc rfl (by rfl) (fun wx hx => by subst hx; go_simp; rfl) ?_; simp only [zp])
        refine zxc (v := wy x.2.1 (.slice ua un uc)) rfl (by rfl) (fun wx hx => by subst hx; go_simp) ?_
        simp only [zp]
        refine zxc (v := wy x.2.1 (.slice a2 n2 c2)) rfl (by rfl) (fun wx hx => by subst hx; go_simp) ?_
        simp only [zp]
        refine zxn ?_
        refine zw 27 [] (by kernel_rfl) ?_
        refine readyZ.callG rfl (by rfl) (Rf11 (by rfl) (by rfl) (by simp only [zj]; rfl)) HS.out ?_ readyZ.nil
        rintro e1 Z ⟨rfl, hbz⟩
        refine ⟨_, rfl, fun h => absurd (by decide) h, ?_⟩
        refine zw 28 [] (by kernel_rfl) ?_
        refine readyZ.consG rfl (by rfl) (v' := .bool false) (w' := Z) (by go_simp) (fun h => absurd (by decide) h) ?_ readyZ.nil
        refine zq 29 (by kernel_rfl) rfl rfl (v' := .bool false) (w' := Z) (by go_simp) (fun h => absurd (by decide) h) ?_
        refine anyZ_done (by kernel_rfl) ?_ _
        dsimp only [Only, Exit.then]
        obtain ⟨hT1, hT2, hT3, hN1⟩ := HK.out
        have NZ := hN1.upto hbz
        have g0 := NZ.cell 0 _ rfl
        have g1 := NZ.frozen 0
        have hwr : wrap64 (((pre.length : Nat) : Int) + 1) = ((pre.length : Nat) : Int) + 1 := by unfold wrap64; omega
        have HE : Hid (Keep V.heap.size W (Z.setCell ⟨wr.heap.size, 0, none⟩ (.int .i64 (((pre.length : Nat) : Int) + 1))) ∧ (Turns (fun k => k = wr.heap.size) V (Z.setCell ⟨wr.heap.size, 0, none⟩ (.int .i64 (((pre.length : Nat) : Int) + 1))) ∧ Bk (Z.setCell ⟨wr.heap.size, 0, none⟩ (.int .i64 (((pre.length : Nat) : Int) + 1))) wr.heap.size 3 [.int .i64 ((pre ++ [x]).length : Nat)])) := by
          refine ⟨((Keep.of_below hT2).trans (Keep.of_below hbz)).trans (Keep.set Z _ (by show wr.heap.size < V.heap.size; exact hnbV)), (hT1.down (hbz.mono hT1.size)).trans ((Turns.set (S := fun k => k = wr.heap.size) Z rfl _).mono (fun k _ s => .inl s)), ?_⟩
          have := NZ.set 0 (.int .i64 (((pre.length : Nat) : Int) + 1))
          rw [show ((pre ++ [x]).length : Nat) = pre.length + 1 by simp]
          rw [show (((pre.length + 1 : Nat)) : Int) = ((pre.length : Nat) : Int) + 1 by omega]
          exact this
        clear hT1 hT2 hT3 hN1 NZ hbz n0 p0 r2 r3 y0 y1 y2 y3 y4 y5 z0 z1 k0' k1 k2 k3 k4 k5 w0 w1 HK HY HS
        gi_wp2_with fail
        exact HE.out
      case done =>
        rintro D Ud hD hIU hKD
        have HZV := hide zV
        have hnbV : wr.heap.size < V.heap.size := by omega
        clear zV
        obtain ⟨Y, hY⟩ : ∃ Y, Ud.drew = Y := ⟨_, rfl⟩
        have BY : Below Ud.heap.size Ud Y := by rw [← hY]; exact (Below.refl _ _).drew
        have TY : Turns (fun k => k = wr.heap.size) V Y := hIU.1.down (BY.mono hIU.1.size)
        have LY : LI w.heap.size w.heap.size W2.heap.size c m W1.heap.size room ov kx wx ep F L ep U L Y := LV.turn3 TY nV
        have N1 := hIU.2.upto BY
        have hlk : (ks L).length = L.length := by simp
        obtain ⟨ka, kn, kc, hkx⟩ := LY.rc.keys.shape
        have hkn := key_len LY.rc.keys hkx
        rw [hlk] at hkn
        subst hkn
        have hLn := len_is LY.pc
        have n0 := N1.cell 0 _ rfl
        have p0 := LY.bb.cell 0 _ rfl
        have r2 := LY.rc.blk.cell 2 _ rfl
        rw [hkx] at r2
        have BwY : Below w.heap.size w Y := (BwV.trans (TY.below (B := w.heap.size) (fun k hk => by omega) BwV.size))
        have hKDY : Y.heap[D]? = some (.deferred (some [])) := (BY.block D (Array.getElem?_eq_some_iff.1 hKD).1).trans hKD
        have HLen := hide hLn
        have HY := hide hY
        have HK := hide (And.intro BwY <| And.intro LY.bh hKDY)
        clear LY N1 hkx hLn hY BwY hKDY TY BY
        gi_wp2_with fail
        refine wpIn_only ?_
        refine wpIn_region_zW (S := fun wx => wx = Y) [14, 15, 16] (by kernel_rfl) ?_
        rw [HY.out]
        refine zx 0 9 20 rfl (by kernel_rfl) rfl ?_
        iterate 6 (refine zxc rfl (by rfl) (fun wx hx => by subst hx; go_simp; rfl) ?_; simp only [zp])
        refine zxc (v := .bool true) rfl (by rfl) (fun wx hx => by subst hx; go_simp) ?_
        simp only [zp]
        iterate 2 (refine zxc rfl (by rfl) (fun wx hx => by subst hx; go_simp; rfl) ?_; simp only [zp])
        refine zxn ?_
        refine zx 10 1 20 rfl (by kernel_rfl) rfl ?_
        refine zxc rfl (by rfl) (fun wx hx => by subst hx; go_simp; rfl) ?_
        simp only [zp]
        refine zxn ?_
        refine zw 9 [] (by kernel_rfl) ?_
        refine readyZ.callG rfl (by rfl) (Rf15 (by rfl) (by rfl) (by simp only [zj]; rfl)) HLen.out ?_ readyZ.nil
        rintro e1 Z ⟨rfl, rfl⟩
        refine ⟨_, rfl, fun _ => rfl, ?_⟩
        refine zx 11 3 20 rfl (by kernel_rfl) rfl ?_
        refine zxc (v := .bool true) rfl (by rfl) (fun wx hx => by subst hx; go_simp) ?_
        simp only [zp]
        refine zxc (v := .bool true) rfl (by rfl) (fun wx hx => by subst hx; go_simp) ?_
        simp only [zp]
        refine zxc (v := .bool true) rfl (by rfl) (fun wx hx => by subst hx; go_simp) ?_
        simp only [zp]
        refine zxn ?_
        refine zw 14 [] (by kernel_rfl) ?_
        refine readyZ.callG rfl (by rfl) (Rf6 (by rfl) (by rfl) (by simp only [zj])) (awake_any _) ?_ readyZ.nil
        rintro e1 Z2 ⟨rfl, hbz⟩
        refine ⟨_, rfl, fun h => absurd (by decide) h, ?_⟩
        refine zq 15 (by kernel_rfl) rfl rfl (v' := .bool true) (w' := Z2) (by go_simp) (fun h => absurd (by decide) h) ?_
        obtain ⟨hT1, hT2, hT3⟩ := HK.out
        have NZ := hT2.upto hbz
        have NE := NZ.set 0 (.bool true)
        have g0 := NZ.cell 0 _ rfl
        have g1 := NZ.frozen 0
        obtain ⟨V2, hV2⟩ : ∃ V2, Z2.setCell ⟨w.heap.size, 0, none⟩ (.bool true) = V2 := ⟨_, rfl⟩
        have BV2 : Below w.heap.size w V2 := by rw [← hV2]; exact (hT1.trans (hbz.mono hT1.size)).setCell (p := ⟨w.heap.size, 0, none⟩) (Nat.le_refl _) (.bool true)
        have hDlt := (Array.getElem?_eq_some_iff.1 hT3).1
        have hDn : D ≠ w.heap.size := by omega
        have hD2 : V2.heap[D]? = some (.deferred (some [])) := by
          have h1 := (hbz.block D hDlt).trans hT3
          rw [← hV2]
          exact ((Turns.set (S := fun k => k = w.heap.size) Z2 rfl (.bool true)).block D (Array.getElem?_eq_some_iff.1 h1).1 hDn).trans h1
        have e3 : Bk V2 w.heap.size 4 [.bool true] := by rw [← hV2]; exact NE
        have HV2 := hide hV2
        have HE := hide (And.intro BV2 <| And.intro hD2 e3)
        clear hT1 hT2 hT3 NZ NE hV2 BV2 hD2 e3
        refine zw 16 [] (by kernel_rfl) ?_
        refine readyZ.skip (w' := V2) rfl rfl (by rw [← HV2.out]; go_simp) (fun h => absurd (by decide) h) ?_ readyZ.nil
        refine anyZ_done (by kernel_rfl) ?_ _
        dsimp only [Only, Exit.then]
        clear g0 g1 HV2
        gi_wp2_with fail
        obtain ⟨hT1, hT2, hT3⟩ := HE.out
        have hDV := (Array.getElem?_eq_some_iff.1 hT2).1
        have hwV : w.heap.size < V2.heap.size := hT3.lt
        refine ⟨by simp, .inl ⟨_, _, rfl, run_takeDeferred hT2, ?_⟩⟩
        have e4 : Bk (V2.putObj D (.deferred none)) w.heap.size 4 [.bool true] := ((grownBy_putObj' V2 D (.deferred none)).block w.heap.size hwV (fun e => hDn (Option.some.inj e.symm))).trans hT3
        have e5 := e4.cell 0 _ rfl
        refine ⟨.bool true, ?_, rfl, hT1.trans (belowK_b (w := w) (Nat.le_refl _) _ D _ _ (by omega) hT2 rfl rfl)⟩
        simp [results, Try.f3, go_sem, e5]
end Go.Proofs.Ytihjmgdihpeffaa
