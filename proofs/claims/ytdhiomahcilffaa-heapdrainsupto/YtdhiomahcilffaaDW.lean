/-
  phalanxlaw09.HeapDrains, walked.
-/
import Derived.Test.YtdhiomahcilffaaTwo
namespace Go.Proofs.Ytdhiomahcilffaa
open Go.RowKit Go.Shelf
set_option linter.unusedVariables false
set_option linter.unusedSimpArgs false
attribute [local go_sem] Oper.semAt_some
/-- What HeapDrains keeps while it drains the first heap: the second one, as far as it has been popped. -/
structure Dr (w : World) (nn : Int) (gk kk b2 : Nat) (u2 : Value) (cnt : Int) (S pre : List It) (W : World) : Prop where
  a : Boxed W w.heap.size 3 (.int .i64 nn)
  r : Boxed W (w.heap.size + 1) 4 (.bool false)
  gb : Boxed W gk 23 (ptr b2)
  kb : Boxed W kk 3 (.int .i64 (pre.length : Nat))
  g : ∃ u R, Hs W b2 u cnt R ∧ Drn S pre R ∧ ∀ k, u.ownBlock = some k → u2.ownBlock = some k
  bl : Below w.heap.size w W
theorem Dr.turn {w : World} {nn : Int} {gk kk b2 : Nat} {u2 : Value} {cnt : Int} {S pre : List It} {X Y : World} {T : Nat → Prop} (h : Dr w nn gk kk b2 u2 cnt S pre X) (t : Turns T X Y) (h1 : ¬ T w.heap.size) (h2 : ¬ T (w.heap.size + 1)) (h3 : ¬ T gk) (h4 : ¬ T kk) (h5 : ∀ k, Hb b2 u2 k → ¬ T k) (h6 : ∀ k, T k → w.heap.size ≤ k) : Dr w nn gk kk b2 u2 cnt S pre Y := by
  obtain ⟨u, R, q1, q2, q3⟩ := h.g
  exact ⟨t.same h1 h.a, t.same h2 h.r, t.same h3 h.gb, t.same h4 h.kb, ⟨u, R, q1.kept t (h5 _ (.inl rfl)) (fun k e => h5 _ (.inr (q3 k e))), q2, q3⟩, h.bl.trans (t.below h6 h.bl.size)⟩
theorem Dr.upto {w : World} {nn : Int} {gk kk b2 : Nat} {u2 : Value} {cnt : Int} {S pre : List It} {X Y : World} (h : Dr w nn gk kk b2 u2 cnt S pre X) (hb : Below X.heap.size X Y) : Dr w nn gk kk b2 u2 cnt S pre Y := h.turn (T := NoB) (Turns.of_below hb) id id id id (fun _ _ => id) (fun _ h => h.elim)
set_option maxRecDepth 100000 in
set_option maxHeartbeats 8000000 in
theorem drains_is (v : Value) (zs : List Int) (nn : Int) (w : World) (h : Nr w v zs) (hlen : zs.length ≤ 1048576) : Calls Try.prog 5 #[v, .int .i64 nn] w fun e w' => e = .returned (.bool true) ∧ Below w.heap.size w w' := by
  obtain ⟨a, cap, rfl, -, hcells⟩ := h
  have HC : Hid (∀ wr, Below w.heap.size w wr → ∀ (i : Nat) z, zs[i]? = some z → ∃ g o, a = some ⟨g, o, none⟩ ∧ wr.cell? ⟨g, o + i, none⟩ = some (.int .i64 z)) := hide fun wr hb i z hz => by
    obtain ⟨g, o, e1, e2⟩ := hcells i z hz
    exact ⟨g, o, e1, (hb.cell (World.block_lt_of_cell? w _ e2)).trans e2⟩
  clear hcells
  refine (callsIn_wide (n := 10)).1 ?_
  refine callsIn_of_wp_marks Try.func5 rfl trivial ?_ rfl
  simp only [Try.ntmps5, List.size_toArray, List.length_cons, List.length_nil, Nat.reduceAdd, Nat.reduceSub, Array.replicate_succ, Array.replicate_zero, List.push_toArray, List.append_toArray, List.nil_append, List.cons_append]
  have A0 : Boxed ((w.alloc (.cells #[.int .i64 nn] 3)).alloc (.cells #[.bool false] 4)) w.heap.size 3 (.int .i64 nn) := (Boxed.new w 3 (.int .i64 nn)).alloc (.cells #[.bool false] 4)
  have R0 : Boxed ((w.alloc (.cells #[.int .i64 nn] 3)).alloc (.cells #[.bool false] 4)) (w.heap.size + 1) 4 (.bool false) := by
    have := Boxed.new (w.alloc (.cells #[.int .i64 nn] 3)) 4 (.bool false)
    simpa using this
  have B0 := box2 w (.cells #[.int .i64 nn] 3) (.cells #[.bool false] 4)
  obtain ⟨W0, hW0⟩ : ∃ W0, (w.alloc (.cells #[.int .i64 nn] 3)).alloc (.cells #[.bool false] 4) = W0 := ⟨_, rfl⟩
  have z0 : W0.heap.size = w.heap.size + 2 := by rw [← hW0]; simp
  rw [hW0] at A0 R0 B0
  have HW0 := hide hW0
  have HZ0 := hide z0
  clear hW0 z0
  gi_wp2_with (rw [HW0.out])
  refine ⟨trivial, ?_⟩
  refine (callsIn_wide.2 (awake_is _)).mono ?_
  rintro e W1 ⟨rfl, hb1⟩
  have HA1 := hide (boxed_upto A0 hb1)
  have HR1 := hide (boxed_upto R0 hb1)
  have HB1 := hide (bt B0 hb1)
  have z1 := hb1.size
  have HZ1 : Hid (w.heap.size + 2 ≤ W1.heap.size) := hide (by have := HZ0.out; omega)
  clear A0 R0 B0 hb1 z1
  gi_wp2_with fail
  refine ⟨trivial, ?_⟩
  refine (callsIn_wide.2 (hnew_is _)).mono ?_
  rintro e W2 ⟨rfl, h2, b2, z2⟩
  have HH2 := hide h2
  have HB2 := hide b2
  have HZ2 := hide z2
  clear h2 b2 z2
  gi_wp2_with fail
  refine ⟨trivial, ?_⟩
  refine (callsIn_wide.2 (hnew_is _)).mono ?_
  rintro e W3 ⟨rfl, h3, b3, z3⟩
  have HDd : Hid (Dd W1.heap.size W1.heap.size W2.heap.size (.slice none 0 0) (.slice none 0 0) 0 0 [] [] (W3.alloc (.cells #[ptr W2.heap.size] 23))) := hide ⟨(HH2.out.upto b3).upto (box1 _ _), h3.upto (box1 _ _), (by have := HZ2.out; omega), fun k e => by simp [Value.ownBlock] at e, fun k e => by rcases e with e | e; omega; simp [Value.ownBlock] at e, fun k e => by have := HZ2.out; rcases e with e | e; omega; simp [Value.ownBlock] at e⟩
  have HB4 : Hid (Below W1.heap.size W1 (W3.alloc (.cells #[ptr W2.heap.size] 23))) := hide (bt HB2.out (bt b3 (box1 _ _)))
  have HG4 : Hid (Boxed (W3.alloc (.cells #[ptr W2.heap.size] 23)) W3.heap.size 23 (ptr W2.heap.size)) := hide (Boxed.new _ _ _)
  have HZ3 := hide z3
  clear h3 b3 z3
  obtain ⟨W4, hW4⟩ : ∃ W4, W3.alloc (.cells #[ptr W2.heap.size] 23) = W4 := ⟨_, rfl⟩
  have z4 : W4.heap.size = W3.heap.size + 1 := by rw [← hW4]; simp
  rw [hW4] at HDd HB4 HG4
  have HW4 := hide hW4
  have HZ4 := hide z4
  clear hW4 z4
  gi_wp2_with (rw [HW4.out])
  gi_loopw [7] (fun i wr => ∃ (k : Nat) (u1 u2 : Value), i = .int .i64 (k : Nat) ∧ k ≤ zs.length ∧ Dd W1.heap.size W1.heap.size W2.heap.size u1 u2 (k : Nat) (k : Nat) ((its zs).take k) ((its zs).take k) wr ∧ Boxed wr W3.heap.size 23 (ptr W2.heap.size) ∧ Below W1.heap.size W4 wr) (fun i _ => zs.length - (intOf i).toNat)
  case atStart => exact ⟨0, _, _, rfl, Nat.zero_le _, HDd.out, HG4.out, Below.refl _ _⟩
  case round =>
    obtain ⟨k, u1, u2, rfl, hk, hdd, hg, hb⟩ := hrel
    rename World => wo
    have HD := hide hdd
    have HG := hide hg
    have HB := hide hb
    have hzo := hb.size
    have hww : w.heap.size + 2 ≤ W1.heap.size := HZ1.out
    have hzw : W1.heap.size ≤ wo.heap.size := by have := HZ4.out; have := HZ3.out; have := HZ2.out; omega
    have hA : Boxed wo w.heap.size 3 (.int .i64 nn) := (hb.block _ (by omega)).trans ((HB4.out.block _ (by omega)).trans HA1.out)
    have hR : Boxed wo (w.heap.size + 1) 4 (.bool false) := (hb.block _ (by omega)).trans ((HB4.out.block _ (by omega)).trans HR1.out)
    have HBw : Hid (Below w.heap.size w wo) := hide (HB1.out.trans ((HB4.out.trans hb).mono (by omega)))
    have HAo := hide hA
    have HRo := hide hR
    have cG := hg.cell
    clear hdd hg hb hA hR
    by_cases hkl : k < zs.length
    · obtain ⟨z, hzk⟩ : ∃ z, zs[k]? = some z := ⟨_, List.getElem?_eq_getElem hkl⟩
      obtain ⟨g, o, ha, c0⟩ := HC.out wo HBw.out k z hzk
      have d1 : (k : Int) < (zs.length : Nat) := by omega
      have d3 : (k : Int) + 1 ≤ 1048577 := by omega
      have hz : zs.getD k 0 = z := by simp [List.getD, hzk]
      have hpm : ((⟨z, (k : Nat), (k : Nat)⟩ : It) :: (its zs).take k).Perm ((its zs).take (k + 1)) := by rw [its_take hkl, hz]; exact List.perm_append_comm (l₁ := [_])
      have HPm := hide hpm
      have hl24 : (((its zs).take k).length + 1) * 24 ≤ 140737488355328 := by rw [List.length_take]; omega
      have HL24 := hide hl24
      subst ha
      clear hpm hz hl24
      gi_wp2_with fail
      refine ⟨trivial, ?_⟩
      refine (callsIn_wide.2 (push_is _ _ _ _ z (k : Nat) wo HD.out.h1 (by omega) HL24.out)).mono ?_
      rintro e w5 ⟨rfl, hp⟩
      obtain ⟨u5, d5, b5⟩ := HD.out.pushed hzw hp
      have g5 : Boxed w5 W3.heap.size 23 (ptr W2.heap.size) := by
        obtain ⟨_, _, q2, _⟩ := hp
        exact q2.same (HD.out.h1.not_box HG.out (by decide) (by decide)) HG.out
      have c5 : w5.cell? ⟨g, o + k, none⟩ = some (.int .i64 z) := by
        obtain ⟨g', o', e1, e2⟩ := HC.out w5 (HBw.out.trans (b5.mono (by omega))) k z hzk
        simp only [Option.some.injEq, Addr.mk.injEq, and_true] at e1
        obtain ⟨rfl, rfl⟩ := e1
        exact e2
      have cg5 := g5.cell
      have HD5 := hide d5
      have HB5 := hide (HB.out.trans b5)
      have HG5 := hide g5
      have hz5 : W1.heap.size ≤ w5.heap.size := by have := b5.size; omega
      clear hp d5 b5 g5 c0
      gi_wp2_with fail
      refine wpIn_only ?_
      refine wpIn_region_heldW (S := fun wx => wx.cell? ⟨W3.heap.size, 0, none⟩ = some (ptr W2.heap.size) ∧ wx.cell? ⟨g, o + k, none⟩ = some (.int .i64 z)) only_in (by kernel_rfl) (by kernel_rfl) ⟨cg5, c5⟩ (fun hHeld => ?_)
      refine wpAnyH_take (i := 0) (v := ?_) rfl (by kernel_rfl) (by kernel_rfl) (by kernel_rfl) (fun _ _ _ h => h.elim) (Or.inl ⟨by rfl, ?_⟩) (by assumption) ?_
      rotate_left
      · intro wx hSw
        try dsimp only at hSw
        go_simp
        try with_reducible rfl
      try simp only [Act.put, List.getElem_toArray, List.getElem_cons_zero, List.getElem_cons_succ, List.setIfInBounds_toArray, List.set_cons_zero, List.set_cons_succ]
      refine wpAnyH_take (i := 1) (v := ?_) rfl (by kernel_rfl) (by kernel_rfl) (by kernel_rfl) (fun _ _ _ h => h.elim) (Or.inl ⟨by rfl, ?_⟩) (by assumption) ?_
      rotate_left
      · intro wx hSw
        try dsimp only at hSw
        go_simp
        try with_reducible rfl
      try simp only [Act.put, List.getElem_toArray, List.getElem_cons_zero, List.getElem_cons_succ, List.setIfInBounds_toArray, List.set_cons_zero, List.set_cons_succ]
      refine wpAnyH_take (i := 2) (v := ?_) rfl (by kernel_rfl) (by kernel_rfl) (by kernel_rfl) (fun _ _ _ h => h.elim) (Or.inl ⟨by rfl, ?_⟩) (by assumption) ?_
      rotate_left
      · intro wx hSw
        try dsimp only at hSw
        go_simp
        try with_reducible rfl
      try simp only [Act.put, List.getElem_toArray, List.getElem_cons_zero, List.getElem_cons_succ, List.setIfInBounds_toArray, List.set_cons_zero, List.set_cons_succ]
      refine wpAnyH_take (i := 3) (v := ?_) rfl (by kernel_rfl) (by kernel_rfl) (by kernel_rfl) (fun _ _ _ h => h.elim) (Or.inl ⟨by rfl, ?_⟩) (by assumption) ?_
      rotate_left
      · intro wx hSw
        try dsimp only at hSw
        go_simp
        try with_reducible rfl
      try simp only [Act.put, List.getElem_toArray, List.getElem_cons_zero, List.getElem_cons_succ, List.setIfInBounds_toArray, List.set_cons_zero, List.set_cons_succ]
      refine wpAnyH_take (i := 4) (v := ?_) rfl (by kernel_rfl) (by kernel_rfl) (by kernel_rfl) (fun _ _ _ h => h.elim) (Or.inl ⟨by rfl, ?_⟩) (by assumption) ?_
      rotate_left
      · intro wx hSw
        try dsimp only at hSw
        go_simp
        try with_reducible rfl
      try simp only [Act.put, List.getElem_toArray, List.getElem_cons_zero, List.getElem_cons_succ, List.setIfInBounds_toArray, List.set_cons_zero, List.set_cons_succ]
      refine wpAnyH_take (i := 5) (v := ?_) rfl (by kernel_rfl) (by kernel_rfl) (by kernel_rfl) (fun _ _ _ h => h.elim) (Or.inl ⟨by rfl, ?_⟩) (by assumption) ?_
      rotate_left
      · intro wx hSw
        try dsimp only at hSw
        go_simp
        try with_reducible rfl
      try simp only [Act.put, List.getElem_toArray, List.getElem_cons_zero, List.getElem_cons_succ, List.setIfInBounds_toArray, List.set_cons_zero, List.set_cons_succ]
      refine wpAnyH_take (i := 6) (v := ?_) rfl (by kernel_rfl) (by kernel_rfl) (by kernel_rfl) (fun _ _ _ h => h.elim) (Or.inl ⟨by rfl, ?_⟩) (by assumption) ?_
      rotate_left
      · intro wx hSw
        try dsimp only at hSw
        go_simp
        try with_reducible rfl
      try simp only [Act.put, List.getElem_toArray, List.getElem_cons_zero, List.getElem_cons_succ, List.setIfInBounds_toArray, List.set_cons_zero, List.set_cons_succ]
      refine wpAnyH_ready (rs := [7]) (by kernel_rfl) (by simp) ?_
      refine AllReadyH.cons rfl (fun K hK => ?_) ?_
      · go_simp
        refine (push_is _ _ _ _ z (k : Nat) w5.drew (HD5.out.h2.upto ((Below.refl _ _).drew)) (by omega) HL24.out).mono ?_
        rintro e w6 ⟨rfl, hp⟩
        have hd5 := (HD5.out.upto ((Below.refl _ _).drew)).symm
        obtain ⟨u6, d6, b6⟩ := hd5.pushed hz5 hp
        have g6 : Boxed w6 W3.heap.size 23 (ptr W2.heap.size) := by
          obtain ⟨_, _, q2, _⟩ := hp
          exact q2.undrew.same (HD5.out.h2.not_box HG5.out (by decide) (by decide)) HG5.out
        have HD6 := hide d6.symm
        have HG6 := hide g6
        have HB6 : Hid (Below W1.heap.size W4 w6) := hide (HB5.out.drew.trans b6)
        have c6 : w6.cell? ⟨g, o + k, none⟩ = some (.int .i64 z) := by
          obtain ⟨g', o', e1, e2⟩ := HC.out w6 (HB1.out.trans ((HB4.out.trans HB6.out).mono (by omega))) k z hzk
          simp only [Option.some.injEq, Addr.mk.injEq, and_true] at e1
          obtain ⟨rfl, rfl⟩ := e1
          exact e2
        clear hp d6 b6 g6 hd5
        try go_wp2_with fail
        refine hK.out _ _ ?_ (fun hHeld => ?_)
        · exact ⟨HG6.out.cell, c6⟩
        clear hK K
        try simp only [Act.put, List.getElem_toArray, List.getElem_cons_zero, List.getElem_cons_succ, List.setIfInBounds_toArray, List.set_cons_zero, List.set_cons_succ]
        refine wpAnyH_done (by kernel_rfl) ?_ _
        dsimp only [Only, Exit.then]
        clear hHeld
        gi_wp2_with fail
        go_roundw
        case rel => exact ⟨k + 1, u5, u6, by go_num, by omega, by have := HD6.out; push_cast; exact ⟨this.h1.perm HPm.out, this.h2.perm HPm.out, this.nb, this.nu, this.k1, this.k2⟩, HG6.out, HB6.out⟩
        case measure => simp [intOf]; omega
      exact AllReadyH.nil
    · have d1 : ¬ (k : Int) < (zs.length : Nat) := by omega
      have hke : k = zs.length := by omega
      subst hke
      have HDs : Hid (Dd W1.heap.size W1.heap.size W2.heap.size u1 u2 (zs.length : Nat) (zs.length : Nat) (its zs) (its zs) wo) := hide (by have := HD.out; rwa [List.take_of_length_le (by rw [its_len]; exact Nat.le_refl _)] at this)
      gi_wp2_with fail
      refine ⟨trivial, ?_⟩
      refine (callsIn_wide.2 (drain_it (some ⟨W1.heap.size, 0, none⟩) _)).mono ?_
      rintro e wD ⟨rfl, rfl⟩
      gi_wp2_with fail
      obtain ⟨o1, o2, o3⟩ := HDs.out.h1.own
      obtain ⟨o4, o5, o6⟩ := HDs.out.h2.own
      have hHb1 : Hid (∀ k, Hb W1.heap.size u1 k → W1.heap.size ≤ k ∧ k < wo.heap.size) := hide fun k e => by
        refine ⟨HDs.out.k1 k e, ?_⟩
        rcases e with e | e
        · omega
        · exact o2 k e
      have hHb2 : Hid (∀ k, Hb W2.heap.size u2 k → W1.heap.size ≤ k ∧ k < wo.heap.size) := hide fun k e => by
        refine ⟨HDs.out.k2 k e, ?_⟩
        rcases e with e | e
        · omega
        · exact o5 k e
      have hgl := HG.out.lt
      have hg1 : Hid (¬ Hb W1.heap.size u1 W3.heap.size) := hide (HDs.out.h1.not_box HG.out (by decide) (by decide))
      have hg2 : Hid (¬ Hb W2.heap.size u2 W3.heap.size) := hide (HDs.out.h2.not_box HG.out (by decide) (by decide))
      have hap : Hid (∀ k, Hb W1.heap.size u1 k → ¬ Hb W2.heap.size u2 k) := hide HDs.out.apart
      have m1 : Boxed ((wo.alloc (.cells #[.int .i64 0] 3)).alloc (.cells #[.pointer (some ⟨W1.heap.size, 0, none⟩)] 23)) wo.heap.size 3 (.int .i64 0) := (Boxed.new wo 3 (.int .i64 0)).alloc _
      have m2 : Boxed ((wo.alloc (.cells #[.int .i64 0] 3)).alloc (.cells #[.pointer (some ⟨W1.heap.size, 0, none⟩)] 23)) (wo.heap.size + 1) 23 (ptr W1.heap.size) := by
        have := Boxed.new (wo.alloc (.cells #[.int .i64 0] 3)) 23 (ptr W1.heap.size)
        simpa using this
      have bV := box2 wo (.cells #[.int .i64 0] 3) (.cells #[.pointer (some ⟨W1.heap.size, 0, none⟩)] 23)
      obtain ⟨V, hV⟩ : ∃ V, (wo.alloc (.cells #[.int .i64 0] 3)).alloc (.cells #[.pointer (some ⟨W1.heap.size, 0, none⟩)] 23) = V := ⟨_, rfl⟩
      have z5 : V.heap.size = wo.heap.size + 2 := by rw [← hV]; simp
      rw [hV] at m1 m2 bV ⊢
      have HV5 := hide z5
      have HDr : Hid (Dr w nn W3.heap.size wo.heap.size W2.heap.size u2 (zs.length : Nat) (its zs) [] V) := hide ⟨boxed_upto HAo.out bV, boxed_upto HRo.out bV, boxed_upto HG.out bV, m1, ⟨u2, its zs, HDs.out.h2.upto bV, .start, fun _ e => e⟩, bt HBw.out bV⟩
      have HSV := hide (HDs.out.h1.upto bV)
      clear hV z5 m1 o1 o2 o3 o4 o5 o6
      have HnT : Hid (∀ k, (Hb W1.heap.size u1 k ∨ V.heap.size ≤ k) → (W1.heap.size ≤ k ∧ k < wo.heap.size) ∨ V.heap.size ≤ k) := hide fun k e => e.imp (hHb1.out k) id
      refine range_drain (by omega) (c := wo.heap.size + 1) (b := W1.heap.size) (v := u1) (cnt := (zs.length : Nat)) (S := its zs) rfl m2 HSV.out (by rw [its_len]; omega) (fun e => by have := hHb1.out _ e; omega) rfl
        (fun pre W => Dr w nn W3.heap.size wo.heap.size W2.heap.size u2 (zs.length : Nat) (its zs) pre W) (fun cd pre W => cd = .exit 2 ∧ Dr w nn W3.heap.size wo.heap.size W2.heap.size u2 (zs.length : Nat) (its zs) pre W)
        (fun pre X Y h t => h.turn t (fun e => by have := HnT.out _ e; have := HV5.out; omega) (fun e => by have := HnT.out _ e; have := HV5.out; omega) (fun e => by rcases e with e | e; exact hg1.out e; have := HV5.out; omega) (fun e => by have := HnT.out _ e; have := HV5.out; omega) (fun k e e' => by rcases e' with e' | e'; exact hap.out k e' e; have := hHb2.out k e; have := HV5.out; omega) (fun k e => by have := HnT.out _ e; have := HV5.out; omega))
        (fun cd pre X Y h t => ⟨h.1, h.2.turn t (fun e => by have := HnT.out _ e; have := HV5.out; omega) (fun e => by have := HnT.out _ e; have := HV5.out; omega) (fun e => by rcases e with e | e; exact hg1.out e; have := HV5.out; omega) (fun e => by have := HnT.out _ e; have := HV5.out; omega) (fun k e e' => by rcases e' with e' | e'; exact hap.out k e' e; have := hHb2.out k e; have := HV5.out; omega) (fun k e => by have := HnT.out _ e; have := HV5.out; omega)⟩) HDr.out
        (fun x a' W => ∃ q, V.heap.size + 2 ≤ q ∧ B2 W q x.k x.n ∧ a' = { tmps := #[.slice a zs.length cap, .int .i64 nn, undef, .pointer (some ⟨w.heap.size, 0, none⟩), .pointer (some ⟨w.heap.size + 1, 0, none⟩), ptr W1.heap.size, .pointer (some ⟨W3.heap.size, 0, none⟩), .int .i64 (zs.length : Nat), .pointer (some ⟨wo.heap.size, 0, none⟩), .pointer (some ⟨q, 0, none⟩), undef, undef, undef, undef, undef, undef, .bool true, .bool false, ptr W1.heap.size, ptr W2.heap.size, .int .i64 (zs.length : Nat), .slice a zs.length cap, .int .i64 (zs.length : Nat), .bool false, u24, u25, u26, u27, u28, u29, u30, u31, u32, u33, u34, u35, u36, u37, u38, u39, u40, u41, ptr W1.heap.size, .func (.func 25) #[] #[ptr (wo.heap.size + 1)], itv x.k x.n, undef, undef, undef, undef, undef, undef, undef, undef, undef, undef, undef, undef, undef, undef, undef, undef, undef, undef, undef, undef, undef, undef, undef, undef, undef, undef, undef, undef, undef, undef, undef, undef, undef, undef, undef, undef, undef, undef, undef], defers := [] }) ?hax ?assign ?body ?done ?stop
      case hax =>
        rintro x a' _ X Y ⟨q, h1, h2, h3⟩ t
        exact ⟨q, h1, t.same (fun e => by omega) h2, h3⟩
      case assign =>
        rintro l pre x W K hI hz hK
        gi_wp2
        have hb1 := box1 W (.cells #[.int .i64 x.k, .int .i64 x.n] 26)
        exact hK _ _ (Kq.of_below hb1) (hI.upto hb1) ⟨W.heap.size, hz, B2.new _ _ _, rfl⟩
      case body =>
        rintro l pre x a' W hl hI ⟨q, hq, hX, rfl⟩ hnx hz
        have hpl := hnx.facts.2.1
        obtain ⟨u, R, g1, g2, g3⟩ := hI.g
        obtain ⟨Rx, hRx⟩ := hnx
        obtain ⟨R1, n1, n2, n3⟩ := hRx.step
        have hRR := n1.rest g2
        have hR0 : 0 < R.length := by have := hRR.length_eq; have := n2.length_eq; simp at this; omega
        have hRl : R.length ≤ 1152921504606846976 := by have := g2.perm.length_eq; rw [its_len] at this; simp at this; omega
        have cG := hI.gb.cell
        have HI := hide hI
        have HXb := hide hX
        have Hg1 := hide g1
        have Hg3 := hide g3
        have HR0 := hide hR0
        have HRl := hide hRl
        have HKm : Hid (∀ (t : It) (R2 : List It), R.Perm (t :: R2) → (∀ y ∈ R, lt y t = false) → x = t ∧ Drn (its zs) (pre ++ [x]) R2) := hide fun t R2 p1 p2 => by
          obtain ⟨e, _⟩ := both_first hRR (fun y hy => n1.mem y hy) n2 n3 p1 p2
          subst e
          exact ⟨rfl, .next g2 p1 p2⟩
        clear hI hX g1 g2 g3 hRx n1 n2 n3 hRR hR0 hRl
        gi_wp2_with fail
        refine ⟨trivial, ?_⟩
        refine (CallsIn.inRound l (callsIn_wide.2 (pop_yes _ _ _ _ W Hg1.out HR0.out HRl.out))).mono ?_
        rintro e w5 ⟨t, rfl, u5, R5, p1, p2, p3, p4, p5⟩
        obtain ⟨ext, hd5⟩ := HKm.out t R5 p1 p2
        subst ext
        have hHs : ∀ k, (k = W2.heap.size ∨ u.ownBlock = some k) → Hb W2.heap.size u2 k := fun k e => e.imp id (Hg3.out k)
        have T5 : Turns (Hb W2.heap.size u2) W w5 := p4.mono (fun k _ e => hHs k e)
        have x5 : B2 w5 q x.k x.n := HXb.out.kept T5 (fun e => by have := hHb2.out _ e; have := HV5.out; omega)
        have a5 : Boxed w5 w.heap.size 3 (.int .i64 nn) := T5.same (fun e => by have := hHb2.out _ e; omega) HI.out.a
        have r5 : Boxed w5 (w.heap.size + 1) 4 (.bool false) := T5.same (fun e => by have := hHb2.out _ e; omega) HI.out.r
        have gb5 : Boxed w5 W3.heap.size 23 (ptr W2.heap.size) := T5.same hg2.out HI.out.gb
        have kb5 : Boxed w5 wo.heap.size 3 (.int .i64 (pre.length : Nat)) := T5.same (fun e => by have := hHb2.out _ e; omega) HI.out.kb
        have b6 := box1 w5 (.cells #[.int .i64 x.k, .int .i64 x.n] 26)
        have T6 : Turns (Hb W2.heap.size u2) W (w5.alloc (.cells #[.int .i64 x.k, .int .i64 x.n] 26)) := T5.trans (Turns.of_below b6)
        have y6 := B2.new w5 x.k x.n
        have x6 := x5.upto b6
        have a6 := boxed_upto a5 b6
        have r6 := boxed_upto r5 b6
        have gb6 := boxed_upto gb5 b6
        have kb6 := boxed_upto kb5 b6
        have hs6 := p3.upto b6
        obtain ⟨W6, hW6⟩ : ∃ W6, w5.alloc (.cells #[.int .i64 x.k, .int .i64 x.n] 26) = W6 := ⟨_, rfl⟩
        rw [hW6] at T6 y6 x6 a6 r6 gb6 kb6 hs6
        have T7 : Turns (fun k => k = wo.heap.size) W6 (W6.setCell ⟨wo.heap.size, 0, none⟩ (.int .i64 ((pre.length : Nat) + 1))) := Turns.set (S := fun k => k = wo.heap.size) W6 (p := ⟨wo.heap.size, 0, none⟩) rfl _
        have hkb7 := kb6.set (.int .i64 ((pre.length : Nat) + 1))
        have hz2 := hHb2.out
        have hdr7 : Dr w nn W3.heap.size wo.heap.size W2.heap.size u2 (zs.length : Nat) (its zs) (pre ++ [x]) (W6.setCell ⟨wo.heap.size, 0, none⟩ (.int .i64 ((pre.length : Nat) + 1))) :=
          ⟨T7.same (by omega) a6, T7.same (by omega) r6, T7.same (by omega) gb6, by simpa using hkb7, ⟨u5, R5, hs6.kept T7 (fun e => by have := hHb2.out _ (.inl e.symm); omega) (fun k e c => by have := hHb2.out k (.inr (Hg3.out k (p5 k e))); omega), hd5, fun k e => Hg3.out k (p5 k e)⟩, HI.out.bl.trans ((T6.below (fun k e => by have := hHb2.out k e; omega) HI.out.bl.size).trans (T7.below (fun k e => by omega) (Nat.le_trans HI.out.bl.size T6.size)))⟩
        have hkq7 : Kq V.heap.size (fun k => Hb W1.heap.size u1 k ∨ k = wo.heap.size + 1) W (W6.setCell ⟨wo.heap.size, 0, none⟩ (.int .i64 ((pre.length : Nat) + 1))) := (Kq.of_turns T6 (fun k _ e e' => by rcases e with e | e | e; have := hHb2.out k e'; have := HV5.out; omega; exact hap.out k e e'; have := hHb2.out k e'; omega)).trans (Kq.of_turns T7 (fun k _ e e' => by rcases e with e | e | e; have := HV5.out; omega; have := hHb1.out k e; omega; omega))
        obtain ⟨X7, hX7⟩ : ∃ X7, W6.setCell ⟨wo.heap.size, 0, none⟩ (.int .i64 ((pre.length : Nat) + 1)) = X7 := ⟨_, rfl⟩
        have a7 : Boxed X7 w.heap.size 3 (.int .i64 nn) := by rw [← hX7]; exact T7.same (by omega) a6
        rw [hX7] at hdr7 hkq7 hkb7
        obtain ⟨x6a, x6b⟩ := x6.c
        obtain ⟨y6a, y6b⟩ := y6.c
        have kc6 := kb6.cell
        have kf6 := kb6.frozen
        have kc7 := hkb7.cell
        have ac7 := a7.cell
        have HW6 := hide hW6
        have HX7 := hide hX7
        have HD7 := hide hdr7
        have HK7 := hide hkq7
        have dpl : (pre.length : Int) + 1 ≤ 1048577 := by omega
        clear p1 p2 p3 p4 p5 hd5 hHs T5 T6 T7 x5 a5 r5 gb5 kb5 b6 y6 x6 a6 r6 gb6 kb6 hs6 hW6 hkb7 hz2 hdr7 hkq7 hX7 a7
        by_cases hnn : nn ≤ (pre.length : Int) + 1
        · have hnd : decide (nn ≤ (pre.length : Int) + 1) = true := decide_eq_true hnn
          gi_wp2_with (first | rw [HW6.out] | rw [HX7.out])
          exact ⟨HK7.out, rfl, HD7.out⟩
        · have hnd : decide (nn ≤ (pre.length : Int) + 1) = false := decide_eq_false hnn
          gi_wp2_with (first | rw [HW6.out] | rw [HX7.out])
          exact ⟨HK7.out, HD7.out⟩
      case done =>
        rintro D xs v' W hD hd hI hh ho hK
        obtain ⟨u, R, g1, g2, g3⟩ := hI.g
        have hpm : ([] : List It).Perm R := hd.rest g2
        have hmem : ∀ y ∈ ([] : List It), y ∈ its zs := fun y hy => by simp at hy
        have hRl : R.length ≤ 1048576 := by have := g2.perm.length_eq; rw [its_len] at this; simp at this; omega
        have hDd : Dd W1.heap.size W1.heap.size W2.heap.size v' u (zs.length : Nat) (zs.length : Nat) [] R W := ⟨hh, g1, HDs.out.nb, fun k e e' => HDs.out.nu k (ho k e) (g3 k e'), fun k e => HDs.out.k1 k (e.imp id (ho k)), fun k e => HDs.out.k2 k (e.imp id (g3 k))⟩
        have HDd2 := hide hDd
        have HPm2 := hide hpm
        have HMem2 := hide hmem
        have HRl2 := hide hRl
        have HO2 := hide ho
        have HG32 := hide g3
        have HI2 := hide hI
        have HKD2 := hide hK
        clear hDd hpm hmem hRl ho g3 hI hK hh g1 g2 hd
        gi_wp2_with fail
        gi_loopw [] (fun wr => ∃ v1 v2 P1 P2, (Dd W1.heap.size W1.heap.size W2.heap.size v1 v2 (zs.length : Nat) (zs.length : Nat) P1 P2 wr ∧ P1.Perm P2 ∧ (∀ y ∈ P1, y ∈ its zs) ∧ P2.length ≤ 1048576) ∧ ((∀ k, v1.ownBlock = some k → u1.ownBlock = some k) ∧ ∀ k, v2.ownBlock = some k → u2.ownBlock = some k) ∧ Boxed wr W3.heap.size 23 (ptr W2.heap.size) ∧ Boxed wr (w.heap.size + 1) 4 (.bool false) ∧ Below w.heap.size w wr ∧ wr.heap[D]? = some (.deferred (some []))) (fun wr => lenAt W2.heap.size wr)
        case atStart => exact ⟨v', u, [], R, ⟨HDd2.out, HPm2.out, HMem2.out, HRl2.out⟩, ⟨HO2.out, HG32.out⟩, HI2.out.gb, HI2.out.r, HI2.out.bl, HKD2.out⟩
        case round =>
          obtain ⟨v1, v2, P1, P2, ⟨ld, lp, lm, ll⟩, ⟨lo1, lo2⟩, lg, lr, lb, lk⟩ := hrel
          rename World => wq
          have cq := lg.cell
          have HLd := hide ld
          have HLp := hide lp
          have HLm := hide lm
          have HLl := hide ll
          have HLo1 := hide lo1
          have HLo2 := hide lo2
          have HLg := hide lg
          have HLr := hide lr
          have HLb := hide lb
          have HLk := hide lk
          have hq0 : W1.heap.size ≤ wq.heap.size := Nat.le_of_lt ld.h1.own.1
          have hDq := (Array.getElem?_eq_some_iff.1 lk).1
          have HLen2 := hide (hlen_is _ _ _ _ _ ld.h2)
          have HLen1 := hide (hlen_is _ _ _ _ _ ld.h1)
          clear ld lp lm ll lo1 lo2 lg lr lb lk
          have HT1 : Hid (∀ k, Hb W1.heap.size v1 k → W1.heap.size ≤ k ∧ k < wo.heap.size ∧ k ≠ W3.heap.size) := hide fun k e => by
            have e' : Hb W1.heap.size u1 k := e.imp id (HLo1.out k)
            have := hHb1.out k e'
            exact ⟨this.1, this.2, fun c => hg1.out (c ▸ e')⟩
          have HT2 : Hid (∀ k, Hb W2.heap.size v2 k → W1.heap.size ≤ k ∧ k < wo.heap.size ∧ k ≠ W3.heap.size) := hide fun k e => by
            have e' : Hb W2.heap.size u2 k := e.imp id (HLo2.out k)
            have := hHb2.out k e'
            exact ⟨this.1, this.2, fun c => hg2.out (c ▸ e')⟩
          rcases Nat.eq_zero_or_pos P2.length with hp0 | hp0
          · have hp1 : P1.length = 0 := by have := HLp.out.length_eq; omega
            rw [hp0] at HLen2
            rw [hp1] at HLen1
            gi_wp2_with fail
            refine ⟨trivial, ?_⟩
            refine (callsIn_wide.2 HLen2.out).mono ?_
            rintro e w5 ⟨rfl, hw5⟩
            have hw6 := hw5.symm
            subst hw6
            clear hw5
            gi_wp2_with fail
            refine ⟨trivial, ?_⟩
            refine (callsIn_wide.2 HLen1.out).mono ?_
            rintro e w5 ⟨rfl, hw5⟩
            have hw6 := hw5.symm
            subst hw6
            clear hw5
            gi_wp2_with fail
            refine ⟨trivial, ?_⟩
            refine (callsIn_wide.2 (awake_is _)).mono ?_
            rintro e w7 ⟨rfl, hb7⟩
            have hr7 := boxed_upto HLr.out hb7
            have cR := hr7.cell
            have fR := hr7.frozen
            have HB7 := hide (bt HLb.out hb7)
            have hK7 : w7.heap[D]? = some (.deferred (some [])) := (hb7.block D hDq).trans HLk.out
            have hK8 : (w7.setCell ⟨w.heap.size + 1, 0, none⟩ (.bool true)).heap[D]? = some (.deferred (some [])) := (Below.heap_setCell _ _ _ _ (by have := HV5.out; simp; omega)).trans hK7
            have hr8 := hr7.set (.bool true)
            have HR8 := hide hr8
            clear hb7 hr7 hK7 hr8
            gi_wp2_with fail
            refine ⟨by simp, .inl ⟨_, _, rfl, run_takeDeferred hK8, ?_⟩⟩
            have hV9 := HV5.out
            have hc9 : ((w7.setCell ⟨w.heap.size + 1, 0, none⟩ (.bool true)).putObj D (.deferred none)).cell? ⟨w.heap.size + 1, 0, none⟩ = some (.bool true) := by
              have hk : ((w7.setCell ⟨w.heap.size + 1, 0, none⟩ (.bool true)).putObj D (.deferred none)).heap[w.heap.size + 1]? = (w7.setCell ⟨w.heap.size + 1, 0, none⟩ (.bool true)).heap[w.heap.size + 1]? := World.putObj_heap_other (by omega)
              rw [World.cell?_of_block (a := ⟨w.heap.size + 1, 0, none⟩) hk]
              exact HR8.out.cell
            refine ⟨.bool true, ?_, rfl, (HB7.out.setCell (p := ⟨w.heap.size + 1, 0, none⟩) (by simp) _).trans (belowK_b (w := w) (Nat.le_refl _) _ D _ _ (by omega) hK8 rfl rfl)⟩
            simp [results, Try.f5, go_sem, hc9]
          · have hp1 : 0 < P1.length := by have := HLp.out.length_eq; omega
            have hpi : (0 : Int) < (P2.length : Nat) := by omega
            have hpl1 : P1.length ≤ 1152921504606846976 := by have := HLp.out.length_eq; have := HLl.out; omega
            have hpl2 : P2.length ≤ 1152921504606846976 := by have := HLl.out; omega
            gi_wp2_with fail
            refine ⟨trivial, ?_⟩
            refine (callsIn_wide.2 HLen2.out).mono ?_
            rintro e w5 ⟨rfl, hw5⟩
            have hw6 := hw5.symm
            subst hw6
            clear hw5
            gi_wp2_with fail
            refine ⟨trivial, ?_⟩
            refine (callsIn_wide.2 (pop_yes _ _ _ _ wq HLd.out.h1 hp1 hpl1)).mono ?_
            rintro e w5 ⟨t1, rfl, hp5⟩
            have hown5 := hp5
            obtain ⟨v5, P5, ⟨p1, p2⟩, d5, b5⟩ := HLd.out.popped hq0 hp5
            obtain ⟨v5', P5', q1, q2, q3, q4, q5⟩ := hown5
            clear hp5 p1 p2 d5 b5
            obtain ⟨d5, b5⟩ := HLd.out.turn1 hq0 q4 q3 (fun k e => .inl (q5 k e))
            have b6 := box1 w5 (.cells #[.int .i64 t1.k, .int .i64 t1.n] 26)
            have g6 := boxed_upto (q4.same (fun e => by have := HT1.out _ e; omega) HLg.out) b6
            have r6 := boxed_upto (q4.same (fun e => by have := HT1.out _ e; omega) HLr.out) b6
            have d6 := d5.upto b6
            have x6 := B2.new w5 t1.k t1.n
            have k6 : (w5.alloc (.cells #[.int .i64 t1.k, .int .i64 t1.n] 26)).heap[D]? = some (.deferred (some [])) := (b6.block D (Nat.lt_of_lt_of_le hDq q4.size)).trans (q4.same (fun e => by have := HT1.out _ e; have := HV5.out; omega) HLk.out)
            have bl6 : Below w.heap.size w (w5.alloc (.cells #[.int .i64 t1.k, .int .i64 t1.n] 26)) := bt (HLb.out.trans (b5.mono (by omega))) b6
            obtain ⟨W6, hW6⟩ : ∃ W6, w5.alloc (.cells #[.int .i64 t1.k, .int .i64 t1.n] 26) = W6 := ⟨_, rfl⟩
            rw [hW6] at g6 r6 d6 x6 k6 bl6
            have c6 := g6.cell
            have HW6 := hide hW6
            have Hd6 := hide d6
            have Hg6 := hide g6
            have Hr6 := hide r6
            have Hx6 := hide x6
            have Hk6 := hide k6
            have Hbl6 := hide bl6
            have HQ1 := hide q1
            have HQ2 := hide q2
            have HV5o : Hid (∀ k, v5'.ownBlock = some k → u1.ownBlock = some k) := hide fun k e => HLo1.out k (q5 k e)
            have hz6 : W1.heap.size ≤ W6.heap.size := Nat.le_of_lt d6.h1.own.1
            have hx6w : wo.heap.size < w5.heap.size := by have := q4.size; have := HV5.out; omega
            clear q1 q2 q3 q4 q5 d5 b5 b6 g6 r6 d6 x6 k6 bl6 hW6
            gi_wp2_with (rw [HW6.out])
            refine ⟨trivial, ?_⟩
            refine (callsIn_wide.2 (pop_yes _ _ _ _ W6 Hd6.out.h2 hp0 hpl2)).mono ?_
            rintro e w7 ⟨t2, rfl, v7, P7, q1, q2, q3, q4, q5⟩
            obtain ⟨et, hpp⟩ := both_first HLp.out HLm.out HQ1.out HQ2.out q1 q2
            subst et
            obtain ⟨d7, b7⟩ := Hd6.out.symm.turn1 hz6 q4 q3 (fun k e => .inl (q5 k e))
            have b8 := box1 w7 (.cells #[.int .i64 t1.k, .int .i64 t1.n] 26)
            have g8 := boxed_upto (q4.same (fun e => by have := HT2.out _ e; omega) Hg6.out) b8
            have r8 := boxed_upto (q4.same (fun e => by have := HT2.out _ e; omega) Hr6.out) b8
            have d8 := d7.symm.upto b8
            have x8 : B2 _ w5.heap.size t1.k t1.n := (Hx6.out.kept q4 (fun e => by have := HT2.out _ e; omega)).upto b8
            have y8 := B2.new w7 t1.k t1.n
            have hDq6 := (Array.getElem?_eq_some_iff.1 Hk6.out).1
            have k8 : (w7.alloc (.cells #[.int .i64 t1.k, .int .i64 t1.n] 26)).heap[D]? = some (.deferred (some [])) := (b8.block D (Nat.lt_of_lt_of_le hDq6 q4.size)).trans (q4.same (fun e => by have := HT2.out _ e; have := HV5.out; omega) Hk6.out)
            have bl8 : Below w.heap.size w (w7.alloc (.cells #[.int .i64 t1.k, .int .i64 t1.n] 26)) := bt (Hbl6.out.trans (b7.mono (by omega))) b8
            obtain ⟨W8, hW8⟩ : ∃ W8, w7.alloc (.cells #[.int .i64 t1.k, .int .i64 t1.n] 26) = W8 := ⟨_, rfl⟩
            rw [hW8] at g8 r8 d8 x8 y8 k8 bl8
            obtain ⟨xa, xb⟩ := x8.c
            obtain ⟨ya, yb⟩ := y8.c
            have hm1 : P7.length + 1 = P2.length := by have := q1.length_eq; simp at this; omega
            have HW8 := hide hW8
            have Hd8 := hide d8
            have HEnd : Hid (∃ v1 v2 P1 P2, (Dd W1.heap.size W1.heap.size W2.heap.size v1 v2 (zs.length : Nat) (zs.length : Nat) P1 P2 W8 ∧ P1.Perm P2 ∧ (∀ y ∈ P1, y ∈ its zs) ∧ P2.length ≤ 1048576) ∧ ((∀ k, v1.ownBlock = some k → u1.ownBlock = some k) ∧ ∀ k, v2.ownBlock = some k → u2.ownBlock = some k) ∧ Boxed W8 W3.heap.size 23 (ptr W2.heap.size) ∧ Boxed W8 (w.heap.size + 1) 4 (.bool false) ∧ Below w.heap.size w W8 ∧ W8.heap[D]? = some (.deferred (some []))) :=
              hide ⟨v5', v7, P5', P7, ⟨d8, hpp, fun y hy => HLm.out y (HQ1.out.mem_iff.2 (List.mem_cons_of_mem _ hy)), by have := HLl.out; omega⟩, ⟨HV5o.out, fun k e => HLo2.out k (q5 k e)⟩, g8, r8, bl8, k8⟩
            have HM1 := hide hm1
            clear q1 q2 q3 q4 q5 hpp d7 b7 b8 g8 r8 d8 x8 y8 k8 bl8 hW8 hm1
            gi_wp2_with (rw [HW8.out])
            go_roundw
            case rel => exact HEnd.out
            case measure => rw [Hd8.out.h2.lenAt, HLd.out.h2.lenAt]; have := HM1.out; omega
      case stop =>
        rintro D cd xs R1 v' W hD hd ⟨rfl, hI⟩ hh ho hK
        obtain ⟨u, R, g1, g2, g3⟩ := hI.g
        have hpm : R1.Perm R := hd.rest g2
        have hmem : ∀ y ∈ R1, y ∈ its zs := fun y hy => hd.mem y hy
        have hRl : R.length ≤ 1048576 := by have := g2.perm.length_eq; rw [its_len] at this; simp at this; omega
        have hDd : Dd W1.heap.size W1.heap.size W2.heap.size v' u (zs.length : Nat) (zs.length : Nat) R1 R W := ⟨hh, g1, HDs.out.nb, fun k e e' => HDs.out.nu k (ho k e) (g3 k e'), fun k e => HDs.out.k1 k (e.imp id (ho k)), fun k e => HDs.out.k2 k (e.imp id (g3 k))⟩
        have HDd2 := hide hDd
        have HPm2 := hide hpm
        have HMem2 := hide hmem
        have HRl2 := hide hRl
        have HO2 := hide ho
        have HG32 := hide g3
        have HI2 := hide hI
        have HKD2 := hide hK
        clear hDd hpm hmem hRl ho g3 hI hK hh g1 g2 hd
        gi_wp2_with fail
        gi_loopw [] (fun wr => ∃ v1 v2 P1 P2, (Dd W1.heap.size W1.heap.size W2.heap.size v1 v2 (zs.length : Nat) (zs.length : Nat) P1 P2 wr ∧ P1.Perm P2 ∧ (∀ y ∈ P1, y ∈ its zs) ∧ P2.length ≤ 1048576) ∧ ((∀ k, v1.ownBlock = some k → u1.ownBlock = some k) ∧ ∀ k, v2.ownBlock = some k → u2.ownBlock = some k) ∧ Boxed wr W3.heap.size 23 (ptr W2.heap.size) ∧ Boxed wr (w.heap.size + 1) 4 (.bool false) ∧ Below w.heap.size w wr ∧ wr.heap[D]? = some (.deferred (some []))) (fun wr => lenAt W2.heap.size wr)
        case atStart => exact ⟨v', u, R1, R, ⟨HDd2.out, HPm2.out, HMem2.out, HRl2.out⟩, ⟨HO2.out, HG32.out⟩, HI2.out.gb, HI2.out.r, HI2.out.bl, HKD2.out⟩
        case round =>
          obtain ⟨v1, v2, P1, P2, ⟨ld, lp, lm, ll⟩, ⟨lo1, lo2⟩, lg, lr, lb, lk⟩ := hrel
          rename World => wq
          have cq := lg.cell
          have HLd := hide ld
          have HLp := hide lp
          have HLm := hide lm
          have HLl := hide ll
          have HLo1 := hide lo1
          have HLo2 := hide lo2
          have HLg := hide lg
          have HLr := hide lr
          have HLb := hide lb
          have HLk := hide lk
          have hq0 : W1.heap.size ≤ wq.heap.size := Nat.le_of_lt ld.h1.own.1
          have hDq := (Array.getElem?_eq_some_iff.1 lk).1
          have HLen2 := hide (hlen_is _ _ _ _ _ ld.h2)
          have HLen1 := hide (hlen_is _ _ _ _ _ ld.h1)
          clear ld lp lm ll lo1 lo2 lg lr lb lk
          have HT1 : Hid (∀ k, Hb W1.heap.size v1 k → W1.heap.size ≤ k ∧ k < wo.heap.size ∧ k ≠ W3.heap.size) := hide fun k e => by
            have e' : Hb W1.heap.size u1 k := e.imp id (HLo1.out k)
            have := hHb1.out k e'
            exact ⟨this.1, this.2, fun c => hg1.out (c ▸ e')⟩
          have HT2 : Hid (∀ k, Hb W2.heap.size v2 k → W1.heap.size ≤ k ∧ k < wo.heap.size ∧ k ≠ W3.heap.size) := hide fun k e => by
            have e' : Hb W2.heap.size u2 k := e.imp id (HLo2.out k)
            have := hHb2.out k e'
            exact ⟨this.1, this.2, fun c => hg2.out (c ▸ e')⟩
          rcases Nat.eq_zero_or_pos P2.length with hp0 | hp0
          · have hp1 : P1.length = 0 := by have := HLp.out.length_eq; omega
            rw [hp0] at HLen2
            rw [hp1] at HLen1
            gi_wp2_with fail
            refine ⟨trivial, ?_⟩
            refine (callsIn_wide.2 HLen2.out).mono ?_
            rintro e w5 ⟨rfl, hw5⟩
            have hw6 := hw5.symm
            subst hw6
            clear hw5
            gi_wp2_with fail
            refine ⟨trivial, ?_⟩
            refine (callsIn_wide.2 HLen1.out).mono ?_
            rintro e w5 ⟨rfl, hw5⟩
            have hw6 := hw5.symm
            subst hw6
            clear hw5
            gi_wp2_with fail
            refine ⟨trivial, ?_⟩
            refine (callsIn_wide.2 (awake_is _)).mono ?_
            rintro e w7 ⟨rfl, hb7⟩
            have hr7 := boxed_upto HLr.out hb7
            have cR := hr7.cell
            have fR := hr7.frozen
            have HB7 := hide (bt HLb.out hb7)
            have hK7 : w7.heap[D]? = some (.deferred (some [])) := (hb7.block D hDq).trans HLk.out
            have hK8 : (w7.setCell ⟨w.heap.size + 1, 0, none⟩ (.bool true)).heap[D]? = some (.deferred (some [])) := (Below.heap_setCell _ _ _ _ (by have := HV5.out; simp; omega)).trans hK7
            have hr8 := hr7.set (.bool true)
            have HR8 := hide hr8
            clear hb7 hr7 hK7 hr8
            gi_wp2_with fail
            refine ⟨by simp, .inl ⟨_, _, rfl, run_takeDeferred hK8, ?_⟩⟩
            have hV9 := HV5.out
            have hc9 : ((w7.setCell ⟨w.heap.size + 1, 0, none⟩ (.bool true)).putObj D (.deferred none)).cell? ⟨w.heap.size + 1, 0, none⟩ = some (.bool true) := by
              have hk : ((w7.setCell ⟨w.heap.size + 1, 0, none⟩ (.bool true)).putObj D (.deferred none)).heap[w.heap.size + 1]? = (w7.setCell ⟨w.heap.size + 1, 0, none⟩ (.bool true)).heap[w.heap.size + 1]? := World.putObj_heap_other (by omega)
              rw [World.cell?_of_block (a := ⟨w.heap.size + 1, 0, none⟩) hk]
              exact HR8.out.cell
            refine ⟨.bool true, ?_, rfl, (HB7.out.setCell (p := ⟨w.heap.size + 1, 0, none⟩) (by simp) _).trans (belowK_b (w := w) (Nat.le_refl _) _ D _ _ (by omega) hK8 rfl rfl)⟩
            simp [results, Try.f5, go_sem, hc9]
          · have hp1 : 0 < P1.length := by have := HLp.out.length_eq; omega
            have hpi : (0 : Int) < (P2.length : Nat) := by omega
            have hpl1 : P1.length ≤ 1152921504606846976 := by have := HLp.out.length_eq; have := HLl.out; omega
            have hpl2 : P2.length ≤ 1152921504606846976 := by have := HLl.out; omega
            gi_wp2_with fail
            refine ⟨trivial, ?_⟩
            refine (callsIn_wide.2 HLen2.out).mono ?_
            rintro e w5 ⟨rfl, hw5⟩
            have hw6 := hw5.symm
            subst hw6
            clear hw5
            gi_wp2_with fail
            refine ⟨trivial, ?_⟩
            refine (callsIn_wide.2 (pop_yes _ _ _ _ wq HLd.out.h1 hp1 hpl1)).mono ?_
            rintro e w5 ⟨t1, rfl, hp5⟩
            have hown5 := hp5
            obtain ⟨v5, P5, ⟨p1, p2⟩, d5, b5⟩ := HLd.out.popped hq0 hp5
            obtain ⟨v5', P5', q1, q2, q3, q4, q5⟩ := hown5
            clear hp5 p1 p2 d5 b5
            obtain ⟨d5, b5⟩ := HLd.out.turn1 hq0 q4 q3 (fun k e => .inl (q5 k e))
            have b6 := box1 w5 (.cells #[.int .i64 t1.k, .int .i64 t1.n] 26)
            have g6 := boxed_upto (q4.same (fun e => by have := HT1.out _ e; omega) HLg.out) b6
            have r6 := boxed_upto (q4.same (fun e => by have := HT1.out _ e; omega) HLr.out) b6
            have d6 := d5.upto b6
            have x6 := B2.new w5 t1.k t1.n
            have k6 : (w5.alloc (.cells #[.int .i64 t1.k, .int .i64 t1.n] 26)).heap[D]? = some (.deferred (some [])) := (b6.block D (Nat.lt_of_lt_of_le hDq q4.size)).trans (q4.same (fun e => by have := HT1.out _ e; have := HV5.out; omega) HLk.out)
            have bl6 : Below w.heap.size w (w5.alloc (.cells #[.int .i64 t1.k, .int .i64 t1.n] 26)) := bt (HLb.out.trans (b5.mono (by omega))) b6
            obtain ⟨W6, hW6⟩ : ∃ W6, w5.alloc (.cells #[.int .i64 t1.k, .int .i64 t1.n] 26) = W6 := ⟨_, rfl⟩
            rw [hW6] at g6 r6 d6 x6 k6 bl6
            have c6 := g6.cell
            have HW6 := hide hW6
            have Hd6 := hide d6
            have Hg6 := hide g6
            have Hr6 := hide r6
            have Hx6 := hide x6
            have Hk6 := hide k6
            have Hbl6 := hide bl6
            have HQ1 := hide q1
            have HQ2 := hide q2
            have HV5o : Hid (∀ k, v5'.ownBlock = some k → u1.ownBlock = some k) := hide fun k e => HLo1.out k (q5 k e)
            have hz6 : W1.heap.size ≤ W6.heap.size := Nat.le_of_lt d6.h1.own.1
            have hx6w : wo.heap.size < w5.heap.size := by have := q4.size; have := HV5.out; omega
            clear q1 q2 q3 q4 q5 d5 b5 b6 g6 r6 d6 x6 k6 bl6 hW6
            gi_wp2_with (rw [HW6.out])
            refine ⟨trivial, ?_⟩
            refine (callsIn_wide.2 (pop_yes _ _ _ _ W6 Hd6.out.h2 hp0 hpl2)).mono ?_
            rintro e w7 ⟨t2, rfl, v7, P7, q1, q2, q3, q4, q5⟩
            obtain ⟨et, hpp⟩ := both_first HLp.out HLm.out HQ1.out HQ2.out q1 q2
            subst et
            obtain ⟨d7, b7⟩ := Hd6.out.symm.turn1 hz6 q4 q3 (fun k e => .inl (q5 k e))
            have b8 := box1 w7 (.cells #[.int .i64 t1.k, .int .i64 t1.n] 26)
            have g8 := boxed_upto (q4.same (fun e => by have := HT2.out _ e; omega) Hg6.out) b8
            have r8 := boxed_upto (q4.same (fun e => by have := HT2.out _ e; omega) Hr6.out) b8
            have d8 := d7.symm.upto b8
            have x8 : B2 _ w5.heap.size t1.k t1.n := (Hx6.out.kept q4 (fun e => by have := HT2.out _ e; omega)).upto b8
            have y8 := B2.new w7 t1.k t1.n
            have hDq6 := (Array.getElem?_eq_some_iff.1 Hk6.out).1
            have k8 : (w7.alloc (.cells #[.int .i64 t1.k, .int .i64 t1.n] 26)).heap[D]? = some (.deferred (some [])) := (b8.block D (Nat.lt_of_lt_of_le hDq6 q4.size)).trans (q4.same (fun e => by have := HT2.out _ e; have := HV5.out; omega) Hk6.out)
            have bl8 : Below w.heap.size w (w7.alloc (.cells #[.int .i64 t1.k, .int .i64 t1.n] 26)) := bt (Hbl6.out.trans (b7.mono (by omega))) b8
            obtain ⟨W8, hW8⟩ : ∃ W8, w7.alloc (.cells #[.int .i64 t1.k, .int .i64 t1.n] 26) = W8 := ⟨_, rfl⟩
            rw [hW8] at g8 r8 d8 x8 y8 k8 bl8
            obtain ⟨xa, xb⟩ := x8.c
            obtain ⟨ya, yb⟩ := y8.c
            have hm1 : P7.length + 1 = P2.length := by have := q1.length_eq; simp at this; omega
            have HW8 := hide hW8
            have Hd8 := hide d8
            have HEnd : Hid (∃ v1 v2 P1 P2, (Dd W1.heap.size W1.heap.size W2.heap.size v1 v2 (zs.length : Nat) (zs.length : Nat) P1 P2 W8 ∧ P1.Perm P2 ∧ (∀ y ∈ P1, y ∈ its zs) ∧ P2.length ≤ 1048576) ∧ ((∀ k, v1.ownBlock = some k → u1.ownBlock = some k) ∧ ∀ k, v2.ownBlock = some k → u2.ownBlock = some k) ∧ Boxed W8 W3.heap.size 23 (ptr W2.heap.size) ∧ Boxed W8 (w.heap.size + 1) 4 (.bool false) ∧ Below w.heap.size w W8 ∧ W8.heap[D]? = some (.deferred (some []))) :=
              hide ⟨v5', v7, P5', P7, ⟨d8, hpp, fun y hy => HLm.out y (HQ1.out.mem_iff.2 (List.mem_cons_of_mem _ hy)), by have := HLl.out; omega⟩, ⟨HV5o.out, fun k e => HLo2.out k (q5 k e)⟩, g8, r8, bl8, k8⟩
            have HM1 := hide hm1
            clear q1 q2 q3 q4 q5 hpp d7 b7 b8 g8 r8 d8 x8 y8 k8 bl8 hW8 hm1
            gi_wp2_with (rw [HW8.out])
            go_roundw
            case rel => exact HEnd.out
            case measure => rw [Hd8.out.h2.lenAt, HLd.out.h2.lenAt]; have := HM1.out; omega
end Go.Proofs.Ytdhiomahcilffaa
