/-
  A building placed, and razed, by the program; the document's place and May; slices cloned. A building razed by the document; both worlds side by side; a list of buildings shifted.
-/
import Derived.Test.YtoheibfijpdmfaaGreatDoorBoth
set_option linter.unusedSimpArgs false
namespace Go.Proofs.YtoheibfijpdmfaaGreatDoor
open Go.RowKit
set_option linter.unusedVariables false
theorem place_no (p bm n : Nat) (W_ H : Int) (tv bv ev : Value) (f : Int → Int → Option Int) (l : List Bd) (t : Bd) (w : World) (hd : Wd w p W_ H tv bv bm ev) (hw : Who w bm n f) (hl : Bds w bv l) (hs : Sorted l) (hlen : l.length ≤ 256) (hc : code W_ H f l t ≠ 0) :
    Calls Tryz.prog 25 #[ptr p, t.v] w fun e w' => e = .returned (.int .i64 (code W_ H f l t)) ∧ Below w.heap.size w w' := by
  have B0 : Below w.heap.size w (w.alloc (.cells #[.int .i64 t.id, .int .i64 t.x, .int .i64 t.y, .int .i64 t.a, .int .i64 t.b] 50)) := box1 _ _
  have T0 : Turns NoB w (w.alloc (.cells #[.int .i64 t.id, .int .i64 t.x, .int .i64 t.y, .int .i64 t.a, .int .i64 t.b] 50)) := Turns.of_below B0
  have HM := hide (may_world p bm n W_ H tv bv ev f l t _ (hd.kept T0 id) (hw.kept T0 id) (hl.kept T0 (fun _ _ => id)) hs hlen)
  obtain ⟨c, hcc⟩ : ∃ c, code W_ H f l t = c := ⟨_, rfl⟩
  rw [hcc] at HM hc ⊢
  have hc' : (c != 0) = true := by simp [hc]
  clear hd hw hl hs hcc T0
  go_enter Tryz.func25, Tryz.ntmps25
  go_wp2_with (go_at_call 34; refine HM.out.mono ?_; rintro e w1 ⟨rfl, hb1⟩)
  go_ret
  exact ⟨rfl, bt B0 hb1⟩
set_option maxRecDepth 100000 in
set_option maxHeartbeats 2000000 in
theorem place_yes (p bm n : Nat) (W_ H : Int) (tv bv ev : Value) (f : Int → Int → Option Int) (l : List Bd) (es : List Rc) (t : Bd) (w : World) (hd : Wd w p W_ H tv bv bm ev) (hw : Who w bm n f) (hl : Bds w bv l) (he : Rcs w ev es) (hs : Sorted l) (hlen : l.length ≤ 256) (hn : n + 64 ≤ maxLen) (hes : (es.length + 1) * 32 ≤ 140737488355328) (hc : code W_ H f l t = 0) :
    Calls Tryz.prog 25 #[ptr p, t.v] w fun e w' => e = .returned (.int .i64 0) ∧ Placed w p bm n W_ H tv bv ev f l es t w' := by
  obtain ⟨m1, m2, m3, m4⟩ := code_zero hc
  have m5 := mb_len m1
  have m6 := mb_id m1
  have B0 : Below w.heap.size w (w.alloc (.cells #[.int .i64 t.id, .int .i64 t.x, .int .i64 t.y, .int .i64 t.a, .int .i64 t.b] 50)) := box1 _ _
  have T0 : Turns NoB w (w.alloc (.cells #[.int .i64 t.id, .int .i64 t.x, .int .i64 t.y, .int .i64 t.a, .int .i64 t.b] 50)) := Turns.of_below B0
  have F0 : Five (w.alloc (.cells #[.int .i64 t.id, .int .i64 t.x, .int .i64 t.y, .int .i64 t.a, .int .i64 t.b] 50)) w.heap.size t := heap_alloc_new w _
  have hd0 := hd.kept T0 id
  have hw0 := hw.kept T0 id
  have hl0 := hl.kept T0 (fun _ _ => id)
  have he0 := he.kept T0 (fun _ _ => id)
  have HM := hide (may_world p bm n W_ H tv bv ev f l t _ hd0 hw0 hl0 hs hlen)
  rw [hc] at HM
  have key : ∀ w1, Below (w.alloc (.cells #[.int .i64 t.id, .int .i64 t.x, .int .i64 t.y, .int .i64 t.a, .int .i64 t.b] 50)).heap.size (w.alloc (.cells #[.int .i64 t.id, .int .i64 t.x, .int .i64 t.y, .int .i64 t.a, .int .i64 t.b] 50)) w1 →
      Wd w1 p W_ H tv bv bm ev ∧ Who w1 bm n f ∧ Bds w1 bv l ∧ Five w1 w.heap.size t ∧ Rcs w1 ev es := fun w1 hb => by
    have T : Turns NoB (w.alloc (.cells #[.int .i64 t.id, .int .i64 t.x, .int .i64 t.y, .int .i64 t.a, .int .i64 t.b] 50)) w1 := Turns.of_below hb
    exact ⟨hd0.kept T id, hw0.kept T id, hl0.kept T (fun _ _ => id), F0.kept T id, he0.kept T (fun _ _ => id)⟩
  have HK := hide key
  have HS := hide hs
  have hp0 := hd.lt
  have hb0 := hw.lt
  have hrow := fun k e => (hl.lt k e).2
  have hrowe := fun k e => (he.lt k e).2
  have hpb := hd.ne_map hw
  clear key hd0 hw0 hl0 he0 hs hc T0
  go_enter Tryz.func25, Tryz.ntmps25
  go_wp2_with (go_at_call 34; refine HM.out.mono ?_; rintro e w1 ⟨rfl, hb1⟩; obtain ⟨k1, k2, k3, k4, k5⟩ := HK.out w1 hb1; have z0 : w1.cell? ⟨w.heap.size, 0, none⟩ = some (.int .i64 t.id) := k4.c 0; have z1 : w1.cell? ⟨w.heap.size, 1, none⟩ = some (.int .i64 t.x) := k4.c 1; have z2 : w1.cell? ⟨w.heap.size, 2, none⟩ = some (.int .i64 t.y) := k4.c 2; have z3 : w1.cell? ⟨w.heap.size, 3, none⟩ = some (.int .i64 t.a) := k4.c 3; have z4 : w1.cell? ⟨w.heap.size, 4, none⟩ = some (.int .i64 t.b) := k4.c 4)
  refine (stand_any p bm n W_ H tv bv ev f l t w1 k1 k2 k3 HS.out m3 m6 (by omega)).mono ?_
  rintro e w2 ⟨rfl, g, cap, hd2, hl2, hw2, T2, hloc⟩
  have F2 : Five w2 w.heap.size t := k4.kept T2 (fun h => h.elim (fun h => by omega) (fun h => h.elim (fun h => by omega) (fun h => by have := hrow _ h; omega)))
  have he2 : Rcs w2 ev es := k5.kept T2 (fun k e => by
    rintro (h | h | h)
    · subst h; exact k1.ne_row k5 (by decide) e
    · subst h; exact row_ne_map k5 k2 e
    · exact rows_ne k5 k3 (by decide) e h)
  have TW1 : Turns NoB w w1 := (Turns.of_below B0).trans ((Turns.of_below hb1).mono (fun _ _ h => h))
  clear z0 z1 z2 z3 z4 k1 k2 k3 k4 k5 HM HK
  obtain ⟨fi, hf, hz, h4, h32⟩ := info_parts info43
  have hm1 : es.length + 1 ≤ maxLen := by unfold maxLen; omega
  have hS0 : (w2.cell? ⟨w.heap.size, 1, none⟩ = some (.int .i64 t.x) ∧ w2.cell? ⟨w.heap.size, 2, none⟩ = some (.int .i64 t.y) ∧ w2.cell? ⟨w.heap.size, 3, none⟩ = some (.int .i64 t.a) ∧ w2.cell? ⟨w.heap.size, 4, none⟩ = some (.int .i64 t.b)) := ⟨F2.c 1, F2.c 2, F2.c 3, F2.c 4⟩
  have hS1 : ∀ o, ((w2.alloc o).cell? ⟨w.heap.size, 1, none⟩ = some (.int .i64 t.x) ∧ (w2.alloc o).cell? ⟨w.heap.size, 2, none⟩ = some (.int .i64 t.y) ∧ (w2.alloc o).cell? ⟨w.heap.size, 3, none⟩ = some (.int .i64 t.a) ∧ (w2.alloc o).cell? ⟨w.heap.size, 4, none⟩ = some (.int .i64 t.b)) := fun o => by
    have F := F2.kept (Turns.of_below (S := NoB) (box1 w2 o)) id
    exact ⟨F.c 1, F.c 2, F.c 3, F.c 4⟩
  have hev : ev.ownBlock ≠ some w.heap.size := fun e => by have := hrowe _ e; omega
  have hevp : ev.ownBlock ≠ some p := hd2.ne_row he2 (by decide)
  have hT3 : ∀ {wx : World} {o : Obj}, (w2.alloc o).drew.grownBy wx ev.ownBlock → Turns (fun k => ev.ownBlock = some k) w2 wx := fun {wx o} hg =>
    (Turns.of_below (box1 w2 o)).trans ((Turns.of_grown (w := (w2.alloc o).drew) hg (fun k e => Or.inl e)).undrew)
  have hS2 : ∀ {wx : World} {o : Obj}, (w2.alloc o).drew.grownBy wx ev.ownBlock → (wx.cell? ⟨w.heap.size, 1, none⟩ = some (.int .i64 t.x) ∧ wx.cell? ⟨w.heap.size, 2, none⟩ = some (.int .i64 t.y) ∧ wx.cell? ⟨w.heap.size, 3, none⟩ = some (.int .i64 t.a) ∧ wx.cell? ⟨w.heap.size, 4, none⟩ = some (.int .i64 t.b)) := fun {wx o} hg => by
    have F := F2.kept (hT3 hg) hev
    exact ⟨F.c 1, F.c 2, F.c 3, F.c 4⟩
  have hS3 : ∀ {wx : World} {o : Obj} {v : Value}, (w2.alloc o).drew.grownBy wx ev.ownBlock → ((wx.setCell ⟨p, 7, none⟩ v).cell? ⟨w.heap.size, 1, none⟩ = some (.int .i64 t.x) ∧ (wx.setCell ⟨p, 7, none⟩ v).cell? ⟨w.heap.size, 2, none⟩ = some (.int .i64 t.y) ∧ (wx.setCell ⟨p, 7, none⟩ v).cell? ⟨w.heap.size, 3, none⟩ = some (.int .i64 t.a) ∧ (wx.setCell ⟨p, 7, none⟩ v).cell? ⟨w.heap.size, 4, none⟩ = some (.int .i64 t.b)) := fun {wx o v} hg => by
    have F := (F2.kept (hT3 hg) hev).kept (Turns.set (S := fun k => k = p) wx (p := ⟨p, 7, none⟩) rfl v) (by omega)
    exact ⟨F.c 1, F.c 2, F.c 3, F.c 4⟩
  have hW3 : ∀ {wx : World} {o : Obj}, (w2.alloc o).drew.grownBy wx ev.ownBlock → Wd wx p W_ H tv (.slice (some ⟨g, 0, none⟩) (l.length + 1) cap) bm ev := fun {wx o} hg => hd2.kept (hT3 hg) hevp
  have c7 : w2.cell? ⟨p, 7, none⟩ = some ev := hd2.c 7
  have c7' : ∀ o, (w2.alloc o).cell? ⟨p, 7, none⟩ = some ev := fun o => (hd2.kept (Turns.of_below (S := NoB) (box1 w2 o)) id).c 7
  have HE := hide he2
  have HFin : ∀ {w3 : World} {g3 cap3 : Nat}, (w2.alloc (.cells #[.int .i64 t.x, .int .i64 t.y, .int .i64 t.a, .int .i64 t.b] 48)).drew.grownBy w3 ev.ownBlock → w3.ownsRow 0 48 4 (.slice (some ⟨g3, 0, none⟩) (es.length + 1) cap3) (es.length + 1) (es.flatMap Rc.cs ++ t.foot.cs) → ((Value.slice (some ⟨g3, 0, none⟩) (es.length + 1) cap3).ownBlock = ev.ownBlock ∨ (Value.slice (some ⟨g3, 0, none⟩) (es.length + 1) cap3).ownBlock = some (w2.alloc (.cells #[.int .i64 t.x, .int .i64 t.y, .int .i64 t.a, .int .i64 t.b] 48)).drew.heap.size) →
      Placed w p bm n W_ H tv bv ev f l es t (w3.setCell ⟨p, 7, none⟩ (.slice (some ⟨g3, 0, none⟩) (es.length + 1) cap3)) := fun {w3 g3 cap3} hg hown hl3 => by
    have T3 := hT3 hg
    have TS : Turns (fun k => k = p) w3 (w3.setCell ⟨p, 7, none⟩ (.slice (some ⟨g3, 0, none⟩) (es.length + 1) cap3)) := Turns.set (S := fun k => k = p) w3 (p := ⟨p, 7, none⟩) rfl _
    have hd3 := hd2.kept T3 hevp
    have hw3 := (hw2.mono (show _ ≤ n + 64 by omega)).kept T3 (row_ne_map he2 hw2)
    have hl3' := hl2.kept T3 (fun k e h => rows_ne hl2 he2 (by decide) e h)
    have hr3 : Rcs w3 (.slice (some ⟨g3, 0, none⟩) (es.length + 1) cap3) (es ++ [t.foot]) := by simpa [Rcs] using hown
    refine ⟨_, _, hd3.set7 _, hl3'.kept TS (fun k e h => ?_), hw3.kept TS hpb, hr3.kept TS (fun k e h => ?_), ?_, fun k e => ?_, fun k e => ?_⟩
    · subst h; exact hd3.ne_row hl3' (by decide) e
    · subst h; exact hd3.ne_row hr3 (by decide) e
    · refine (((TW1.mono (fun _ _ h => h.elim)).trans (T2.mono (fun k _ h => .inl ?_))).trans (T3.mono (fun k _ h => .inl (.inr (.inr (.inr h)))))).trans (TS.mono (fun k _ h => .inl (.inl h)))
      rcases h with h | h | h
      · exact .inl h
      · exact .inr (.inl h)
      · exact .inr (.inr (.inl h))
    · simp only [Value.ownBlock, Option.some.injEq] at e
      subst e
      rcases hloc with h | h
      · exact .inl h
      · exact .inr (by have := TW1.size; omega)
    · rcases hl3 with h | h
      · exact .inl (by rw [← h]; exact e)
      · rw [h] at e
        simp at e
        right
        have h1 := TW1.size
        have h2 := T2.size
        omega
  have HF := @HFin
  clear HFin hd2 hl2 hw2 he2 hev hevp hloc T2 TW1 F2 F0 B0 hb1
  go_wp2_with fail
  refine Code.wp_mono (Q := Only (fun a' w' => ∃ v3, a' = { tmps := #[ptr p, t.v, undef, ptr w.heap.size, .int .i64 0, .int .i64 0, ptr p, t.v, .int .i64 0, .int .i64 0, .bool false, undef, ptr p, t.v, .tuple #[], ptr p, ptr p, ptr p, .pointer (some ⟨p, 7, none⟩), ev, .pointer (some ⟨w.heap.size, 1, none⟩), rct t.x t.y t.a t.b, .slice (some ⟨w2.heap.size, 0, none⟩) 1 1, v3, ptr p, .pointer (some ⟨p, 7, none⟩)], defers := [] } ∧ Placed w p bm n W_ H tv bv ev f l es t w')) ?rest ?_
  case rest =>
    rintro (_ | _ | _ | _ | _) a' w' hO
    all_goals first | exact hO.elim | skip
    obtain ⟨v3, rfl, hP⟩ := hO
    have HP := hide hP
    clear hP
    go_wp2_with fail
    go_ret
    exact ⟨rfl, HP.out⟩
  refine wp_region_held_drew (S := fun w' => (w'.cell? ⟨w.heap.size, 1, none⟩ = some (.int .i64 t.x) ∧ w'.cell? ⟨w.heap.size, 2, none⟩ = some (.int .i64 t.y) ∧ w'.cell? ⟨w.heap.size, 3, none⟩ = some (.int .i64 t.a) ∧ w'.cell? ⟨w.heap.size, 4, none⟩ = some (.int .i64 t.b))) (by kernel_rfl) hS0 (fun hHeld => ?_)
  refine wpAnyH_take (i := 0) (v := ?_) rfl (by kernel_rfl) (by kernel_rfl) (by kernel_rfl) (fun _ _ _ h => h.elim) (Or.inl ⟨by rfl, ?_⟩) (by assumption) ?_
  rotate_left
  · intro wx hSw
    try dsimp only at hSw
    go_simp
    try with_reducible rfl
  try simp only [Act.put, List.getElem_toArray, List.getElem_cons_zero, List.setIfInBounds_toArray, List.set_cons_zero, List.set_cons_succ]
  refine wpAnyH_take (i := 1) (v := ?_) rfl (by kernel_rfl) (by kernel_rfl) (by kernel_rfl) (fun _ _ _ h => h.elim) (Or.inl ⟨by rfl, ?_⟩) (by assumption) ?_
  rotate_left
  · intro wx hSw
    try dsimp only at hSw
    go_simp
    try with_reducible rfl
  try simp only [Act.put, List.getElem_toArray, List.getElem_cons_zero, List.getElem_cons_succ, List.setIfInBounds_toArray, List.set_cons_zero, List.set_cons_succ]
  refine wpAnyH_take (i := 2) (v := ?_) rfl (by kernel_rfl) (by kernel_rfl) (by kernel_rfl) (fun _ _ _ h => h.elim) (Or.inl ⟨by rfl, ?_⟩) (by assumption) ?_
  rotate_left
  · intro wx hSw
    try dsimp only at hSw
    go_simp
    try with_reducible rfl
  try simp only [Act.put, List.getElem_toArray, List.getElem_cons_zero, List.getElem_cons_succ, List.setIfInBounds_toArray, List.set_cons_zero, List.set_cons_succ]
  refine wpAnyH_take (i := 3) (v := ?_) rfl (by kernel_rfl) (by kernel_rfl) (by kernel_rfl) (fun _ _ _ h => h.elim) (Or.inl ⟨by rfl, ?_⟩) (by assumption) ?_
  rotate_left
  · intro wx hSw
    try dsimp only at hSw
    go_simp
    try with_reducible rfl
  try simp only [Act.put, List.getElem_toArray, List.getElem_cons_zero, List.getElem_cons_succ, List.setIfInBounds_toArray, List.set_cons_zero, List.set_cons_succ]
  refine wpAnyH_take (i := 5) (v := ?_) rfl (by kernel_rfl) (by kernel_rfl) (by kernel_rfl) (fun _ _ _ h => h.elim) (Or.inl ⟨by rfl, ?_⟩) (by assumption) ?_
  rotate_left
  · intro wx hSw
    try dsimp only at hSw
    go_simp
    try with_reducible rfl
  try simp only [Act.put, List.getElem_toArray, List.getElem_cons_zero, List.getElem_cons_succ, List.setIfInBounds_toArray, List.set_cons_zero, List.set_cons_succ]
  refine wpAnyH_take (i := 6) (v := ?_) rfl (by kernel_rfl) (by kernel_rfl) (by kernel_rfl) (fun _ _ _ h => h.elim) (Or.inl ⟨by rfl, ?_⟩) (by assumption) ?_
  rotate_left
  · intro wx hSw
    try dsimp only at hSw
    go_simp
    try with_reducible rfl
  try simp only [Act.put, List.getElem_toArray, List.getElem_cons_zero, List.getElem_cons_succ, List.setIfInBounds_toArray, List.set_cons_zero, List.set_cons_succ]
  refine wpAnyH_ready (rs := [4, 7]) (by kernel_rfl) (by simp) ?_
  refine AllReadyH.cons rfl (fun K hK => ?_) ?_
  · go_simp
    refine hK.out _ _ ?_ (fun hHeld => ?_)
    · first | exact hS0 | exact hS1 _ | exact hS2 (by assumption) | exact hS3 (by assumption)
    clear hK K
    try simp only [Act.put, List.getElem_toArray, List.getElem_cons_zero, List.getElem_cons_succ, List.setIfInBounds_toArray, List.set_cons_zero, List.set_cons_succ]
    refine wpAnyH_ready (rs := [7]) (by kernel_rfl) (by simp) ?_
    refine AllReadyH.cons rfl (fun K hK => ?_) ?_
    · go_simp
      refine hK.out _ _ ?_ (fun hHeld => ?_)
      · first | exact hS0 | exact hS1 _ | exact hS2 (by assumption) | exact hS3 (by assumption)
      clear hK K
      try simp only [Act.put, List.getElem_toArray, List.getElem_cons_zero, List.getElem_cons_succ, List.setIfInBounds_toArray, List.set_cons_zero, List.set_cons_succ]
      refine wpAnyH_ready (rs := [8]) (by kernel_rfl) (by simp) ?_
      refine AllReadyH.cons rfl (fun K hK => ?_) ?_
      · refine step_append_row rfl _ _ 90 rfl 48 fi z43 4 32 Tryz.underlying90 hf hz h4 h32 rfl (by decide) ev es.length _ (by simp [Act.eval]) (HE.out.alloc _) ⟨w2.heap.size, 0, none⟩ 1 1 t.foot.cs (by simp [Act.eval]) rfl (rc_new w2 t.foot) one_rc hm1 hes ?_
        intro v' w3 hown hgrow hloc'
        obtain ⟨g3, cap3, rfl⟩ := row_form hown
        have hd3 := hW3 hgrow
        have c73 : w3.cell? ⟨p, 7, none⟩ = some ev := hd3.c 7
        have f73 := hd3.f 7
        refine hK.out _ _ ?_ (fun hHeld => ?_)
        · first | exact hS0 | exact hS1 _ | exact hS2 (by assumption) | exact hS3 (by assumption)
        clear hK K
        try simp only [Act.put, List.getElem_toArray, List.getElem_cons_zero, List.getElem_cons_succ, List.setIfInBounds_toArray, List.set_cons_zero, List.set_cons_succ]
        refine wpAnyH_take (i := 9) (v := ?_) rfl (by kernel_rfl) (by kernel_rfl) (by kernel_rfl) (fun _ _ _ h => h.elim) (Or.inl ⟨by rfl, ?_⟩) (by assumption) ?_
        rotate_left
        · intro wx hSw
          try dsimp only at hSw
          go_simp
          try with_reducible rfl
        try simp only [Act.put, List.getElem_toArray, List.getElem_cons_zero, List.getElem_cons_succ, List.setIfInBounds_toArray, List.set_cons_zero, List.set_cons_succ]
        refine wpAnyH_take (i := 10) (v := ?_) rfl (by kernel_rfl) (by kernel_rfl) (by kernel_rfl) (fun _ _ _ h => h.elim) (Or.inl ⟨by rfl, ?_⟩) (by assumption) ?_
        rotate_left
        · intro wx hSw
          try dsimp only at hSw
          go_simp
          try with_reducible rfl
        try simp only [Act.put, List.getElem_toArray, List.getElem_cons_zero, List.getElem_cons_succ, List.setIfInBounds_toArray, List.set_cons_zero, List.set_cons_succ]
        refine wpAnyH_ready (rs := [11]) (by kernel_rfl) (by simp) ?_
        refine AllReadyH.cons rfl (fun K hK => ?_) ?_
        · go_simp
          refine hK.out _ _ ?_ (fun hHeld => ?_)
          · first | exact hS0 | exact hS1 _ | exact hS2 (by assumption) | exact hS3 (by assumption)
          clear hK K
          try simp only [Act.put, List.getElem_toArray, List.getElem_cons_zero, List.getElem_cons_succ, List.setIfInBounds_toArray, List.set_cons_zero, List.set_cons_succ]
          refine wpAnyH_done (by kernel_rfl) ?_ _
          exact ⟨_, rfl, HF hgrow hown hloc'⟩
        exact AllReadyH.nil
      exact AllReadyH.nil
    exact AllReadyH.nil
  refine AllReadyH.cons rfl (fun K hK => ?_) ?_
  · go_simp
    refine hK.out _ _ ?_ (fun hHeld => ?_)
    · first | exact hS0 | exact hS1 _ | exact hS2 (by assumption) | exact hS3 (by assumption)
    clear hK K
    try simp only [Act.put, List.getElem_toArray, List.getElem_cons_zero, List.getElem_cons_succ, List.setIfInBounds_toArray, List.set_cons_zero, List.set_cons_succ]
    refine wpAnyH_ready (rs := [4]) (by kernel_rfl) (by simp) ?_
    refine AllReadyH.cons rfl (fun K hK => ?_) ?_
    · go_simp
      refine hK.out _ _ ?_ (fun hHeld => ?_)
      · first | exact hS0 | exact hS1 _ | exact hS2 (by assumption) | exact hS3 (by assumption)
      clear hK K
      try simp only [Act.put, List.getElem_toArray, List.getElem_cons_zero, List.getElem_cons_succ, List.setIfInBounds_toArray, List.set_cons_zero, List.set_cons_succ]
      refine wpAnyH_ready (rs := [8]) (by kernel_rfl) (by simp) ?_
      refine AllReadyH.cons rfl (fun K hK => ?_) ?_
      · refine step_append_row rfl _ _ 90 rfl 48 fi z43 4 32 Tryz.underlying90 hf hz h4 h32 rfl (by decide) ev es.length _ (by simp [Act.eval]) (HE.out.alloc _) ⟨w2.heap.size, 0, none⟩ 1 1 t.foot.cs (by simp [Act.eval]) rfl (rc_new w2 t.foot) one_rc hm1 hes ?_
        intro v' w3 hown hgrow hloc'
        obtain ⟨g3, cap3, rfl⟩ := row_form hown
        have hd3 := hW3 hgrow
        have c73 : w3.cell? ⟨p, 7, none⟩ = some ev := hd3.c 7
        have f73 := hd3.f 7
        refine hK.out _ _ ?_ (fun hHeld => ?_)
        · first | exact hS0 | exact hS1 _ | exact hS2 (by assumption) | exact hS3 (by assumption)
        clear hK K
        try simp only [Act.put, List.getElem_toArray, List.getElem_cons_zero, List.getElem_cons_succ, List.setIfInBounds_toArray, List.set_cons_zero, List.set_cons_succ]
        refine wpAnyH_take (i := 9) (v := ?_) rfl (by kernel_rfl) (by kernel_rfl) (by kernel_rfl) (fun _ _ _ h => h.elim) (Or.inl ⟨by rfl, ?_⟩) (by assumption) ?_
        rotate_left
        · intro wx hSw
          try dsimp only at hSw
          go_simp
          try with_reducible rfl
        try simp only [Act.put, List.getElem_toArray, List.getElem_cons_zero, List.getElem_cons_succ, List.setIfInBounds_toArray, List.set_cons_zero, List.set_cons_succ]
        refine wpAnyH_take (i := 10) (v := ?_) rfl (by kernel_rfl) (by kernel_rfl) (by kernel_rfl) (fun _ _ _ h => h.elim) (Or.inl ⟨by rfl, ?_⟩) (by assumption) ?_
        rotate_left
        · intro wx hSw
          try dsimp only at hSw
          go_simp
          try with_reducible rfl
        try simp only [Act.put, List.getElem_toArray, List.getElem_cons_zero, List.getElem_cons_succ, List.setIfInBounds_toArray, List.set_cons_zero, List.set_cons_succ]
        refine wpAnyH_ready (rs := [11]) (by kernel_rfl) (by simp) ?_
        refine AllReadyH.cons rfl (fun K hK => ?_) ?_
        · go_simp
          refine hK.out _ _ ?_ (fun hHeld => ?_)
          · first | exact hS0 | exact hS1 _ | exact hS2 (by assumption) | exact hS3 (by assumption)
          clear hK K
          try simp only [Act.put, List.getElem_toArray, List.getElem_cons_zero, List.getElem_cons_succ, List.setIfInBounds_toArray, List.set_cons_zero, List.set_cons_succ]
          refine wpAnyH_done (by kernel_rfl) ?_ _
          exact ⟨_, rfl, HF hgrow hown hloc'⟩
        exact AllReadyH.nil
      exact AllReadyH.nil
    exact AllReadyH.nil
  exact AllReadyH.nil
end Go.Proofs.YtoheibfijpdmfaaGreatDoor
namespace Go.Proofs.YtoheibfijpdmfaaGreatDoor
open Go.RowKit
set_option linter.unusedVariables false
theorem epoch_world (p bm : Nat) (W H : Int) (tv bv ev : Value) (es : List Rc) (w : World) (hd : Wd w p W H tv bv bm ev) (he : Rcs w ev es) :
    Calls Tryz.prog 40 #[ptr p] w fun e w' => e = .returned (.int .i64 (es.length : Nat)) ∧ w' = w := by
  have HM := hide (made_is hd)
  obtain ⟨a, cap, rfl, -, -⟩ := he.form
  have c7 : w.cell? ⟨p, 7, none⟩ = some (.slice a es.length cap) := hd.c 7
  clear hd he
  go_enter Tryz.func40, Tryz.ntmps40
  go_wp2_with (go_at_call 42; refine HM.out.mono ?_; rintro e w' ⟨rfl, rfl⟩)
  go_ret
  exact ⟨rfl, rfl⟩
end Go.Proofs.YtoheibfijpdmfaaGreatDoor
namespace Go.Proofs.YtoheibfijpdmfaaGreatDoor
open Go.RowKit
set_option linter.unusedVariables false
set_option maxRecDepth 100000 in
set_option maxHeartbeats 1000000 in
theorem delete_inner (l : List Bd) (g cap i : Nat) (w : World) (hv : Bds w (.slice (some ⟨g, 0, none⟩) l.length cap) l) (hl : l.length ≤ 256) (hi : i + 1 < l.length) :
    Calls Tryz.prog 57 #[.slice (some ⟨g, 0, none⟩) l.length cap, .int .i64 i, .int .i64 ((i : Int) + 1)] w (Deleted w g cap (l.take i ++ l.drop (i + 1))) := by
  obtain ⟨X, hX, hcap, hcl, hXl, hXt⟩ : ∃ X : List Value, w.heap[g]? = some (.cells X.toArray 50 (0, 0)) ∧ cap ≤ maxLen ∧ l.length ≤ cap ∧ X.length = cap * 5 ∧ X.take (l.length * 5) = l.flatMap Bd.cs := by
    rcases hv.2 with ⟨e, _⟩ | ⟨g', cap', cur, e, hb, hg, hn, hm, hs, ht⟩
    · cases e
    · cases e; exact ⟨cur.toList, by simpa using hg, hm, hn, by simpa using hs, ht⟩
  have hmax' : cap ≤ 9223372036854775807 := hcap
  have hi' : i < l.length := by omega
  have hlenD := cs_len (l.drop (i + 1))
  rw [List.length_drop] at hlenD
  have hCc : ∀ j u, ((l.drop (i + 1)).flatMap Bd.cs)[j]? = some u → w.cell? ⟨g, (i + 1) * 5 + j, none⟩ = some u := fun j u hu => by
    rw [cs_drop, List.getElem?_drop] at hu
    have := hv.cells (g := g) rfl ((i + 1) * 5 + j) u hu
    simpa [Addr.add_lit] using this
  obtain ⟨C, hC⟩ : ∃ C, C = (l.drop (i + 1)).flatMap Bd.cs := ⟨_, rfl⟩
  rw [← hC] at hlenD hCc
  have hC1 : ∀ u ∈ C, u.oneCell' = true := by rw [hC]; exact one_all
  obtain ⟨W1, hW1⟩ : ∃ W1, W1 = w.drew.setRow g (splice X (i * 5) C).toArray := ⟨_, rfl⟩
  have hg1 : W1.heap[g]? = some (.cells (splice X (i * 5) C).toArray 50 (0, 0)) := by rw [hW1]; exact setRow_heap w.drew g _ _ 50 _ hX
  have hl1 : (splice X (i * 5) C).length = cap * 5 := by rw [length_splice _ _ _ (by omega), hXl]
  obtain ⟨n, hn⟩ : ∃ n, n + 1 = l.length := ⟨l.length - 1, by omega⟩
  obtain ⟨W2, hW2⟩ : ∃ W2, W2 = W1.setRow g (splice (splice X (i * 5) C) (n * 5) z5).toArray := ⟨_, rfl⟩
  have hg2 : W2.heap[g]? = some (.cells (splice (splice X (i * 5) C) (n * 5) z5).toArray 50 (0, 0)) := by rw [hW2]; exact setRow_heap W1 g _ _ 50 _ hg1
  have hz5 : z5.length = 5 := rfl
  have hcl1 : ∀ ty, (Builtin.clear_ #[23] ty #[.slice (some ⟨g, n * 5, none⟩) 1 (cap - n)]).run Tryz.prog W1 = .ok (.tuple #[]) W2 := fun ty => by
    rw [hW2]; exact run_clear5 W1 ty g (n * 5) (cap - n) _ hg1 (by omega)
  have hgr : w.grownBy W2 (some g) := by
    rw [hW2, hW1]
    exact ⟨rfl, rfl, rfl, by simp [World.setRow], fun k hk hne => by
      have : k ≠ g := fun e => hne (by rw [e])
      rw [setRow_other _ g k _ this, setRow_other _ g k _ this]; rfl⟩
  have hfin : Deleted w g cap (l.take i ++ l.drop (i + 1)) (.returned (.slice (some ⟨g, 0, none⟩) n cap)) W2 := by
    have hll : (l.take i ++ l.drop (i + 1)).length = n := by simp; omega
    refine ⟨by rw [hll], ⟨by rw [cs_len], .inr ⟨g, cap, _, by rw [hll], Nat.zero_le _, hg2, by omega, hcap, by rw [List.size_toArray, length_splice _ _ _ (by omega), hl1], ?_⟩⟩, hgr⟩
    rw [hll, List.toList_toArray, splice_take _ _ _ (by omega)]
    have := splice_take2 X C (i * 5) (by omega)
    rw [hlenD, show i * 5 + (l.length - (i + 1)) * 5 = n * 5 by omega] at this
    rw [this, hC, List.flatMap_append, cs_take]
    congr 1
    have h2 := congrArg (List.take (i * 5)) hXt
    rw [List.take_take, Nat.min_eq_left (by omega)] at h2
    exact h2
  have HF := hide hfin
  have hap : ∀ ty, (Builtin.append_ #[23, 23] ty #[.slice (some ⟨g, 0, none⟩) i cap, .slice (some ⟨g, (i + 1) * 5, none⟩) (l.length - (i + 1)) (cap - (i + 1))]).run Tryz.prog w.drew = .ok (.slice (some ⟨g, 0, none⟩) n cap) W1 := fun ty => by
    have := run_append5 w.drew ty g i cap ⟨g, (i + 1) * 5, none⟩ (l.length - (i + 1)) (cap - (i + 1)) X C hX hlenD (fun j u hu => by rw [Addr.add_lit]; exact hCc j u hu) hC1 (by omega) (by omega)
    rw [this, hW1, show i + (l.length - (i + 1)) = n by omega]
  have HA := fun ty => hide (hap ty)
  have h1 : ¬ ((i : Int) = (i : Int) + 1) := by omega
  have hw1 : IntKind.i64.wrap ((i : Int) + 1) = (i : Int) + 1 := by rw [IntKind.wrap_i64]; omega
  have hb1 : (0 : Int) ≤ (i : Int) + 1 := by omega
  have htn : ((i : Int) + 1).toNat = i + 1 := by omega
  have hb3 : (i : Int) + 1 ≤ (l.length : Nat) := by omega
  have hb4 : (i : Int) ≤ (l.length : Nat) := by omega
  have hb5 : i ≤ l.length := by omega
  have hb6 : i + 1 ≤ l.length := by omega
  have hb7 : ¬ cap = i + 1 := by omega
  have hb8 : ¬ l.length = i := by omega
  have hb9 : ¬ cap = n := by omega
  have hb10 : ((l.length : Nat) : Int) ≤ (cap : Nat) := by omega
  have hb11 : (n : Int) ≤ (l.length : Nat) := by omega
  have hb12 : l.length - n = 1 := by omega
  have hb13 : i ≤ cap := by omega
  have hb14 : (i : Int) ≤ (cap : Nat) := by omega
  have hb15 : n ≤ l.length := by omega
  clear hfin hgr hg2 hl1 hg1 hCc hC1 hlenD hXt hXl hX hv hC hW1 hW2 hap hz5
  go_enter Tryz.func57, Tryz.ntmps57
  go_wp2_with fail
  go_region_law (refine step_append_eq rfl _ _ 23 23 rfl (by simp [Act.eval, Act.put]) (by simp [Act.eval, Act.put]) (HA _).out ?_)
  go_wp2_with fail
  go_ret
  exact HF.out
set_option maxRecDepth 100000 in
set_option maxHeartbeats 1000000 in
theorem delete_last (l : List Bd) (g cap i : Nat) (w : World) (hv : Bds w (.slice (some ⟨g, 0, none⟩) l.length cap) l) (hl : l.length ≤ 256) (hi : i + 1 = l.length) :
    Calls Tryz.prog 57 #[.slice (some ⟨g, 0, none⟩) l.length cap, .int .i64 i, .int .i64 ((i : Int) + 1)] w (Deleted w g cap (l.take i ++ l.drop (i + 1))) := by
  obtain ⟨X, hX, hcap, hcl, hXl, hXt⟩ : ∃ X : List Value, w.heap[g]? = some (.cells X.toArray 50 (0, 0)) ∧ cap ≤ maxLen ∧ l.length ≤ cap ∧ X.length = cap * 5 ∧ X.take (l.length * 5) = l.flatMap Bd.cs := by
    rcases hv.2 with ⟨e, _⟩ | ⟨g', cap', cur, e, hb, hg, hn, hm, hs, ht⟩
    · cases e
    · cases e; exact ⟨cur.toList, by simpa using hg, hm, hn, by simpa using hs, ht⟩
  have hmax' : cap ≤ 9223372036854775807 := hcap
  have hi' : i < l.length := by omega
  have hlenD := cs_len (l.drop (i + 1))
  rw [List.length_drop] at hlenD
  have hCc : ∀ j u, ((l.drop (i + 1)).flatMap Bd.cs)[j]? = some u → w.cell? ⟨g, (i + 1) * 5 + j, none⟩ = some u := fun j u hu => by
    rw [cs_drop, List.getElem?_drop] at hu
    have := hv.cells (g := g) rfl ((i + 1) * 5 + j) u hu
    simpa [Addr.add_lit] using this
  obtain ⟨C, hC⟩ : ∃ C, C = (l.drop (i + 1)).flatMap Bd.cs := ⟨_, rfl⟩
  rw [← hC] at hlenD hCc
  have hC1 : ∀ u ∈ C, u.oneCell' = true := by rw [hC]; exact one_all
  obtain ⟨W1, hW1⟩ : ∃ W1, W1 = w.drew.setRow g (splice X (i * 5) C).toArray := ⟨_, rfl⟩
  have hg1 : W1.heap[g]? = some (.cells (splice X (i * 5) C).toArray 50 (0, 0)) := by rw [hW1]; exact setRow_heap w.drew g _ _ 50 _ hX
  have hl1 : (splice X (i * 5) C).length = cap * 5 := by rw [length_splice _ _ _ (by omega), hXl]
  obtain ⟨n, hn⟩ : ∃ n, n + 1 = l.length := ⟨l.length - 1, by omega⟩
  obtain ⟨W2, hW2⟩ : ∃ W2, W2 = W1.setRow g (splice (splice X (i * 5) C) (n * 5) z5).toArray := ⟨_, rfl⟩
  have hg2 : W2.heap[g]? = some (.cells (splice (splice X (i * 5) C) (n * 5) z5).toArray 50 (0, 0)) := by rw [hW2]; exact setRow_heap W1 g _ _ 50 _ hg1
  have hz5 : z5.length = 5 := rfl
  have hcl1 : ∀ ty, (Builtin.clear_ #[23] ty #[.slice (some ⟨g, n * 5, none⟩) 1 (cap - n)]).run Tryz.prog W1 = .ok (.tuple #[]) W2 := fun ty => by
    rw [hW2]; exact run_clear5 W1 ty g (n * 5) (cap - n) _ hg1 (by omega)
  have hgr : w.grownBy W2 (some g) := by
    rw [hW2, hW1]
    exact ⟨rfl, rfl, rfl, by simp [World.setRow], fun k hk hne => by
      have : k ≠ g := fun e => hne (by rw [e])
      rw [setRow_other _ g k _ this, setRow_other _ g k _ this]; rfl⟩
  have hfin : Deleted w g cap (l.take i ++ l.drop (i + 1)) (.returned (.slice (some ⟨g, 0, none⟩) n cap)) W2 := by
    have hll : (l.take i ++ l.drop (i + 1)).length = n := by simp; omega
    refine ⟨by rw [hll], ⟨by rw [cs_len], .inr ⟨g, cap, _, by rw [hll], Nat.zero_le _, hg2, by omega, hcap, by rw [List.size_toArray, length_splice _ _ _ (by omega), hl1], ?_⟩⟩, hgr⟩
    rw [hll, List.toList_toArray, splice_take _ _ _ (by omega)]
    have := splice_take2 X C (i * 5) (by omega)
    rw [hlenD, show i * 5 + (l.length - (i + 1)) * 5 = n * 5 by omega] at this
    rw [this, hC, List.flatMap_append, cs_take]
    congr 1
    have h2 := congrArg (List.take (i * 5)) hXt
    rw [List.take_take, Nat.min_eq_left (by omega)] at h2
    exact h2
  have HF := hide hfin
  have hC0 : C = [] := List.eq_nil_of_length_eq_zero (by rw [hlenD]; omega)
  have hap : ∀ ty a c, (Builtin.append_ #[23, 23] ty #[.slice (some ⟨g, 0, none⟩) i cap, .slice (some a) 0 c]).run Tryz.prog w.drew = .ok (.slice (some ⟨g, 0, none⟩) n cap) W1 := fun ty a c => by
    have := run_append5 w.drew ty g i cap a 0 c X C hX (by rw [hC0]; rfl) (fun j u hu => by rw [hC0] at hu; simp at hu) hC1 (by omega) (by omega)
    rw [this, hW1, show i + 0 = n by omega]
  have hnl : n = i := by omega
  subst hnl
  have h1 : ¬ ((n : Int) = (n : Int) + 1) := by omega
  have hw1 : IntKind.i64.wrap ((n : Int) + 1) = (n : Int) + 1 := by rw [IntKind.wrap_i64]; omega
  have hb1 : (0 : Int) ≤ (n : Int) + 1 := by omega
  have htn : ((n : Int) + 1).toNat = n + 1 := by omega
  have hb3 : ((l.length : Nat) : Int) = (n : Int) + 1 := by omega
  have hb4 : n ≤ cap := by omega
  have hb5 : (n : Int) ≤ (cap : Nat) := by omega
  have hb6 : ¬ cap = n := by omega
  have hb7 : (n : Int) + 1 ≤ (cap : Nat) := by omega
  clear hfin hgr hg2 hl1 hg1 hCc hC1 hlenD hXt hXl hX hv hC hW1 hW2 hz5 hC0
  generalize l.length = len at *
  subst hi
  by_cases hce : cap = n + 1
  · subst hce
    have hb8 : (n : Int) ≤ (n : Int) + 1 := by omega
    have hcl2 : ∀ ty, (Builtin.clear_ #[23] ty #[.slice (some ⟨g, n * 5, none⟩) 1 1]).run Tryz.prog W1 = .ok (.tuple #[]) W2 := fun ty => by
      have := hcl1 ty
      rwa [show n + 1 - n = 1 by omega] at this
    clear hcl1
    have HA := fun ty => hide (hap ty ⟨g, 0, none⟩ 0)
    clear hap
    go_enter Tryz.func57, Tryz.ntmps57
    go_wp2_with fail
    go_region_law (refine step_append_eq rfl _ _ 23 23 rfl (by simp [Act.eval, Act.put]) (by simp [Act.eval, Act.put]) (HA _).out ?_)
    go_wp2_with fail
    go_ret
    exact HF.out
  · have HA := fun ty => hide (hap ty ⟨g, (n + 1) * 5, none⟩ (cap - (n + 1)))
    clear hap
    go_enter Tryz.func57, Tryz.ntmps57
    go_wp2_with fail
    go_region_law (refine step_append_eq rfl _ _ 23 23 rfl (by simp [Act.eval, Act.put]) (by simp [Act.eval, Act.put]) (HA _).out ?_)
    go_wp2_with fail
    go_ret
    exact HF.out
theorem delete_any (l : List Bd) (g cap i : Nat) (w : World) (hv : Bds w (.slice (some ⟨g, 0, none⟩) l.length cap) l) (hl : l.length ≤ 256) (hi : i < l.length) :
    Calls Tryz.prog 57 #[.slice (some ⟨g, 0, none⟩) l.length cap, .int .i64 i, .int .i64 ((i : Int) + 1)] w (Deleted w g cap (l.take i ++ l.drop (i + 1))) := by
  rcases Nat.lt_or_ge (i + 1) l.length with h | h
  · exact delete_inner l g cap i w hv hl h
  · exact delete_last l g cap i w hv hl (by omega)
end Go.Proofs.YtoheibfijpdmfaaGreatDoor
namespace Go.Proofs.YtoheibfijpdmfaaGreatDoor
open Go.RowKit Go.Shelf
set_option linter.unusedVariables false
attribute [local go_sem] Oper.semAt_some
theorem del_any (l : List Bd) (g cap i : Nat) (w : World) (hv : Bds w (.slice (some ⟨g, 0, none⟩) l.length cap) l) (hl : l.length ≤ 256) (hi : i < l.length) :
    Calls Tryz.prog 57 #[.slice (some ⟨g, 0, none⟩) l.length cap, .int .i64 i, .int .i64 ((i : Int) + 1)] w fun e w' => e = .returned (.slice (some ⟨g, 0, none⟩) (l.length - 1) cap) ∧ Bds w' (.slice (some ⟨g, 0, none⟩) (l.length - 1) cap) (del l i) ∧ w.grownBy w' (some g) := by
  refine (delete_any l g cap i w hv hl hi).mono ?_
  rintro e w' ⟨he, hb, hg⟩
  have hll := del_len hi
  unfold del at hll
  rw [hll] at he hb
  exact ⟨he, hb, hg⟩
set_option maxRecDepth 100000 in
set_option maxHeartbeats 2000000 in
theorem raze_no (p bm : Nat) (W_ H : Int) (tv bv ev : Value) (l : List Bd) (i : Int) (w : World) (hd : Wd w p W_ H tv bv bm ev) (hl : Bds w bv l) (hs : Sorted l) (hlen : l.length ≤ 256) (hf : found l i = false) :
    Calls Tryz.prog 23 #[ptr p, .int .i64 i] w fun e w' => e = .returned (.tuple #[rct 0 0 0 0, .int .i64 4]) ∧ Below w.heap.size w w' := by
  refine (callsIn_wide (n := 10)).1 ?_
  refine callsIn_of_wp_marks Tryz.func23 rfl trivial ?_ rfl
  simp only [Tryz.ntmps23, List.size_toArray, List.length_cons, List.length_nil, Nat.reduceAdd, Nat.reduceSub, Array.replicate_succ, Array.replicate_zero, List.push_toArray, List.append_toArray, List.nil_append, List.cons_append]
  have B0 : Below w.heap.size w ((w.alloc (.cells #[ptr p] 29)).alloc (.cells #[.int .i64 0, .int .i64 0, .int .i64 0, .int .i64 0] 48)) := box2 _ _ _
  have T0 : Turns NoB w ((w.alloc (.cells #[ptr p] 29)).alloc (.cells #[.int .i64 0, .int .i64 0, .int .i64 0, .int .i64 0] 48)) := Turns.of_below B0
  have hd0 := hd.kept T0 id
  have hl0 := hl.kept T0 (fun _ _ => id)
  have HM := hide (made_is hd0)
  have HI := hide (index_is (hd0.c 5) hl0 hs hlen hf)
  have FR : Four ((w.alloc (.cells #[ptr p] 29)).alloc (.cells #[.int .i64 0, .int .i64 0, .int .i64 0, .int .i64 0] 48)) (w.heap.size + 1) 0 0 0 0 := cells4'' (Below.refl _ _)
  clear hd0 hl0 hd hl hs T0
  gi_wp2_with (first | (refine ⟨trivial, ?_⟩; gi_at_call 42; refine (callsIn_wide.2 HM.out).mono ?_; rintro e w1 ⟨rfl, rfl⟩)  | (refine ⟨trivial, ?_⟩; gi_at_call 56; refine (callsIn_wide.2 HI.out).mono ?_; rintro e w2 ⟨rfl, hb2⟩; have F2 := FR.kept hb2; obtain ⟨⟨c0, c1, c2, c3⟩, ⟨g0, g1, g2, g3⟩, zz⟩ := F2))
  refine ⟨.tuple #[rct 0 0 0 0, .int .i64 4], by simp [results, Tryz.results23, go_sem, c0, c1, c2, c3], rfl, ?_⟩
  exact set4 (bt B0 hb2) (by omega)
end Go.Proofs.YtoheibfijpdmfaaGreatDoor
namespace Go.Proofs.YtoheibfijpdmfaaGreatDoor
open Go.RowKit Go.Shelf
set_option linter.unusedVariables false
attribute [local go_sem] Oper.semAt_some
set_option maxRecDepth 100000 in
set_option maxHeartbeats 4000000 in
theorem raze_yes (p bm n : Nat) (W_ H : Int) (tv bv ev : Value) (f : Int → Int → Option Int) (l : List Bd) (es : List Rc) (i : Int) (t : Bd) (w : World) (hd : Wd w p W_ H tv bv bm ev) (hw : Who w bm n f) (hl : Bds w bv l) (he : Rcs w ev es) (hs : Sorted l) (hlen : l.length ≤ 256) (hes : (es.length + 1) * 32 ≤ 140737488355328) (hf : found l i = true) (ht : l[pos l i]? = some t) :
    Calls Tryz.prog 23 #[ptr p, .int .i64 i] w fun e w' => e = .returned (.tuple #[rct t.x t.y t.a t.b, .int .i64 0]) ∧ Razed w p bm n W_ H tv bv ev f l es (pos l i) t w' := by
  refine (callsIn_wide (n := 10)).1 ?_
  refine callsIn_of_wp_marks Tryz.func23 rfl trivial ?_ rfl
  simp only [Tryz.ntmps23, List.size_toArray, List.length_cons, List.length_nil, Nat.reduceAdd, Nat.reduceSub, Array.replicate_succ, Array.replicate_zero, List.push_toArray, List.append_toArray, List.nil_append, List.cons_append]
  have B0 : Below w.heap.size w ((w.alloc (.cells #[ptr p] 29)).alloc (.cells #[.int .i64 0, .int .i64 0, .int .i64 0, .int .i64 0] 48)) := box2 _ _ _
  have T0 : Turns NoB w ((w.alloc (.cells #[ptr p] 29)).alloc (.cells #[.int .i64 0, .int .i64 0, .int .i64 0, .int .i64 0] 48)) := Turns.of_below B0
  have hd0 := hd.kept T0 id
  have hl0 := hl.kept T0 (fun _ _ => id)
  have HM := hide (made_is hd0)
  have HI := hide (index_is (hd0.c 5) hl0 hs hlen hf)
  have FR : Four ((w.alloc (.cells #[ptr p] 29)).alloc (.cells #[.int .i64 0, .int .i64 0, .int .i64 0, .int .i64 0] 48)) (w.heap.size + 1) 0 0 0 0 := cells4'' (Below.refl _ _)
  have PR : Boxed ((w.alloc (.cells #[ptr p] 29)).alloc (.cells #[.int .i64 0, .int .i64 0, .int .i64 0, .int .i64 0] 48)) w.heap.size 29 (ptr p) := (Boxed.new w 29 (ptr p)).alloc _
  have hp0 := hd.lt
  have hb0 := hw.lt
  have hrow := fun k e => (hl.lt k e).2
  have hrowe := fun k e => (he.lt k e).2
  have hpb := hd.ne_map hw
  obtain ⟨k, hk⟩ : ∃ k, pos l i = k := ⟨_, rfl⟩
  rw [hk] at ht HI ⊢
  have hkl : k < l.length := (List.getElem?_eq_some_iff.1 ht).1
  obtain ⟨a, cap, rfl, hcap, hmax, hat⟩ := hl.form
  obtain ⟨g, rfl, hg0, -⟩ := hat k t ht
  have key : ∀ w1, Below (((w.alloc (.cells #[ptr p] 29)).alloc (.cells #[.int .i64 0, .int .i64 0, .int .i64 0, .int .i64 0] 48))).heap.size ((w.alloc (.cells #[ptr p] 29)).alloc (.cells #[.int .i64 0, .int .i64 0, .int .i64 0, .int .i64 0] 48)) w1 → Wd w1 p W_ H tv (.slice (some ⟨g, 0, none⟩) l.length cap) bm ev ∧ Who w1 bm n f ∧ Bds w1 (.slice (some ⟨g, 0, none⟩) l.length cap) l ∧ Boxed w1 w.heap.size 29 (ptr p) ∧ Rcs w1 ev es ∧ Four w1 (w.heap.size + 1) 0 0 0 0 ∧ Turns NoB w w1 := fun w1 hb => by
    have T : Turns NoB ((w.alloc (.cells #[ptr p] 29)).alloc (.cells #[.int .i64 0, .int .i64 0, .int .i64 0, .int .i64 0] 48)) w1 := Turns.of_below hb
    exact ⟨hd0.kept T id, (hw.kept T0 id).kept T id, hl0.kept T (fun _ _ => id), boxed_kept PR T id, (he.kept T0 (fun _ _ => id)).kept T (fun _ _ => id), FR.kept hb, Turns.of_below (bt B0 hb)⟩
  have HK := hide key
  have hki : (k : Int) < (l.length : Nat) := by omega
  have hkw : (0 : Int) ≤ (k : Int) ∧ (k : Int) ≤ 256 := by omega
  have hw1 : IntKind.i64.wrap ((k : Int) + 1) = (k : Int) + 1 := by rw [IntKind.wrap_i64]; omega
  clear key hd0 hl0 hs T0 hf hk hat PR FR hg0
  gi_wp2_with (refine ⟨trivial, ?_⟩; gi_at_call 42; refine (callsIn_wide.2 HM.out).mono ?_; rintro e w1 ⟨rfl, rfl⟩)
  refine ⟨trivial, ?_⟩
  refine (callsIn_wide.2 HI.out).mono ?_
  rintro e w2 ⟨rfl, hb2⟩
  obtain ⟨k1, k2, k3, k4, k5, k6, k7⟩ := HK.out w2 hb2
  have c0 := k4.cell
  have c5 : w2.cell? ⟨p, 5, none⟩ = some (.slice (some ⟨g, 0, none⟩) l.length cap) := k1.c 5
  obtain ⟨e1, e2, e3, e4, hz2⟩ : w2.cell? ⟨g, k * 5 + 1, none⟩ = some (.int .i64 t.x) ∧ w2.cell? ⟨g, k * 5 + 2, none⟩ = some (.int .i64 t.y) ∧ w2.cell? ⟨g, k * 5 + 3, none⟩ = some (.int .i64 t.a) ∧ w2.cell? ⟨g, k * 5 + 4, none⟩ = some (.int .i64 t.b) ∧ w.heap.size + 1 < w2.heap.size := by
    obtain ⟨a', cap', he', _, _, hform⟩ := k3.form
    obtain ⟨g', hgg, _, _, q1, q2, q3, q4⟩ := hform k t ht
    rw [hgg] at he'
    injection he' with h1 h2 h3
    injection h1 with h1
    injection h1 with h1
    subst h1
    exact ⟨q1, q2, q3, q4, k6.2.2⟩
  have F8 : Four (w2.alloc (.cells #[.int .i64 t.x, .int .i64 t.y, .int .i64 t.a, .int .i64 t.b] 48)) w2.heap.size t.x t.y t.a t.b := cells4 (Below.refl _ _)
  clear HM HI HK
  gi_wp2_with fail
  have T8 : Turns NoB w2 (w2.alloc (.cells #[.int .i64 t.x, .int .i64 t.y, .int .i64 t.a, .int .i64 t.b] 48)) := Turns.of_below (box1 _ _)
  have d1 := k1.kept T8 id
  have d2 := k2.kept T8 id
  have d3 := k3.kept T8 (fun _ _ => id)
  have d4 := boxed_kept k4 T8 id
  have d5 := k5.kept T8 (fun _ _ => id)
  have d6 := k6.turn T8 id
  have hz3 : (w2.alloc (.cells #[.int .i64 t.x, .int .i64 t.y, .int .i64 t.a, .int .i64 t.b] 48)).heap.size = w2.heap.size + 1 := by simp
  have TT3 : Turns NoB w (w2.alloc (.cells #[.int .i64 t.x, .int .i64 t.y, .int .i64 t.a, .int .i64 t.b] 48)) := k7.trans (T8.mono (fun _ _ h => h.elim))
  obtain ⟨w3, hw3e⟩ : ∃ w3, w2.alloc (.cells #[.int .i64 t.x, .int .i64 t.y, .int .i64 t.a, .int .i64 t.b] 48) = w3 := ⟨_, rfl⟩
  rw [hw3e] at F8 d1 d2 d3 d4 d5 d6 hz3 TT3 ⊢
  clear hw3e T8 k1 k2 k3 k4 k5 k6 k7 c0 c5 e1 e2 e3 e4
  have hgw : g < w.heap.size := hrow g rfl
  have hgp : g ≠ p := fun e => d1.ne_row d3 (by decide) (by rw [← e]; rfl)
  have hgb : g ≠ bm := fun e => row_ne_map d3 d2 (by rw [← e]; rfl)
  have HD := hide (del_any l g cap k w3.drew d3 hlen hkl)
  have hT4 : ∀ {wx : World}, w3.drew.grownBy wx (some g) → Turns (fun j => j = g) w3 wx := fun {wx} hg => (Turns.of_grown (w := w3.drew) hg (fun j e => by cases e; rfl)).undrew
  have hS0 : w3.cell? ⟨w.heap.size, 0, none⟩ = some (ptr p) := d4.cell
  have hS2 : ∀ {wx : World}, w3.drew.grownBy wx (some g) → wx.cell? ⟨w.heap.size, 0, none⟩ = some (ptr p) := fun {wx} hg => (boxed_kept d4 (hT4 hg) (by omega)).cell
  have hS3 : ∀ {wx : World} {v : Value}, w3.drew.grownBy wx (some g) → (wx.setCell ⟨p, 5, none⟩ v).cell? ⟨w.heap.size, 0, none⟩ = some (ptr p) := fun {wx v} hg =>
    (boxed_kept (boxed_kept d4 (hT4 hg) (by omega)) (Turns.set (S := fun j => j = p) wx (p := ⟨p, 5, none⟩) rfl v) (by omega)).cell
  have c5 : w3.cell? ⟨p, 5, none⟩ = some (.slice (some ⟨g, 0, none⟩) l.length cap) := d1.c 5
  have hW4 : ∀ {wx : World}, w3.drew.grownBy wx (some g) → Wd wx p W_ H tv (.slice (some ⟨g, 0, none⟩) l.length cap) bm ev := fun {wx} hg => d1.kept (hT4 hg) (fun e => hgp e.symm)
  refine wpIn_wide.2 ?_
  refine Code.wp_mono (Q := Only (fun a' w' => ∃ w4, a' = { tmps := #[ptr p, .int .i64 i, ptr w.heap.size, undef, ptr (w.heap.size + 1), .int .i64 0, .int .i64 (k : Nat), .bool true, ptr w2.heap.size, undef, ptr p, .bool true, .bool false, undef, .tuple #[.int .i64 (k : Nat), .bool true], ptr p, .int .i64 i, .tuple #[.int .i64 (k : Nat), .bool true], .int .i64 (k : Nat), .bool true, .bool true, .bool false, undef, ptr p, ptr p, .pointer (some ⟨p, 5, none⟩), .slice (some ⟨g, 0, none⟩) l.length cap, .int .i64 (k : Nat), .pointer (some ⟨g, k * 5, none⟩), .pointer (some ⟨g, k * 5 + 1, none⟩), rct t.x t.y t.a t.b, ptr p, ptr p, ptr p, .pointer (some ⟨p, 5, none⟩), .slice (some ⟨g, 0, none⟩) l.length cap, .int .i64 (k : Nat), .int .i64 (k : Nat), .int .i64 ((k : Int) + 1), .slice (some ⟨g, 0, none⟩) (l.length - 1) cap, ptr p, .pointer (some ⟨p, 5, none⟩), undef, undef, undef, undef, undef, undef, undef, undef, undef, undef, undef, undef, undef, undef, undef, undef, undef, undef, undef], defers := [] } ∧ w' = w4.setCell ⟨p, 5, none⟩ (.slice (some ⟨g, 0, none⟩) (l.length - 1) cap) ∧ Bds w4 (.slice (some ⟨g, 0, none⟩) (l.length - 1) cap) (del l k) ∧ w3.drew.grownBy w4 (some g))) ?rest ?_
  case rest =>
    rintro (_ | _ | _ | _ | _) a' w' hO
    all_goals first | exact hO.elim | skip
    obtain ⟨w4, rfl, rfl, hb4, hg4⟩ := hO
    have T4 := hT4 hg4
    have hd4 := hW4 hg4
    have TS : Turns (fun j => j = p) w4 (w4.setCell ⟨p, 5, none⟩ (.slice (some ⟨g, 0, none⟩) (l.length - 1) cap)) := Turns.set (S := fun j => j = p) w4 (p := ⟨p, 5, none⟩) rfl _
    have s1 := hd4.set5 (.slice (some ⟨g, 0, none⟩) (l.length - 1) cap)
    have s2 := (d2.kept T4 (fun e => hgb e.symm)).kept TS hpb
    have s3 := hb4.kept TS (fun j e h => by subst h; exact hd4.ne_row hb4 (by decide) e)
    have s4 := boxed_kept (boxed_kept d4 T4 (by omega)) TS (by omega)
    have s5 := (d5.kept T4 (fun j e h => by subst h; exact rows_ne d5 d3 (by decide) e rfl)).kept TS (fun j e h => by subst h; exact d1.ne_row d5 (by decide) e)
    have s6 := (d6.turn T4 (by omega)).turn TS (by omega)
    have s8 := (F8.turn T4 (by omega)).turn TS (by omega)
    have TT5 : Turns (fun j => j = p ∨ j = g) w (w4.setCell ⟨p, 5, none⟩ (.slice (some ⟨g, 0, none⟩) (l.length - 1) cap)) := ((TT3.mono (fun _ _ h => h.elim)).trans (T4.mono (fun j _ h => .inl (.inr h)))).trans (TS.mono (fun j _ h => .inl (.inl h)))
    have hz5 : w2.heap.size + 1 ≤ (w4.setCell ⟨p, 5, none⟩ (.slice (some ⟨g, 0, none⟩) (l.length - 1) cap)).heap.size := by have := T4.size; have := TS.size; omega
    obtain ⟨w5, hw5e⟩ : ∃ w5, w4.setCell ⟨p, 5, none⟩ (.slice (some ⟨g, 0, none⟩) (l.length - 1) cap) = w5 := ⟨_, rfl⟩
    rw [hw5e] at s1 s2 s3 s4 s5 s6 s8 TT5 hz5 ⊢
    clear hw5e TS T4 hd4 d1 d2 d3 d4 d5 d6 F8 TT3 hS0 hS2 hS3 c5 hW4 hT4 HD hb4 hg4
    obtain ⟨⟨c0, c1, c2, c3⟩, _, zz⟩ := id s8
    gi_wp2_with fail
    refine ⟨trivial, ?_⟩
    refine (callsIn_wide.2 (cells_any _ _ _ _ _)).mono ?_
    rintro e w6' ⟨rfl, rfl⟩
    gi_wp2_with fail
    have TA : Turns NoB w5 (w5.alloc (.cells #[.int .i64 t.x, .int .i64 t.y, .int .i64 t.a, .int .i64 t.b] 48)) := Turns.of_below (box1 _ _)
    have FB : Four (w5.alloc (.cells #[.int .i64 t.x, .int .i64 t.y, .int .i64 t.a, .int .i64 t.b] 48)) w5.heap.size t.x t.y t.a t.b := cells4 (Below.refl _ _)
    have u1 := s1.kept TA id
    have u2 := s2.kept TA id
    have u3 := s3.kept TA (fun _ _ => id)
    have u4 := boxed_kept s4 TA id
    have u5 := s5.kept TA (fun _ _ => id)
    have u6 := s6.turn TA id
    have u8 := s8.turn TA id
    have hz6 : (w5.alloc (.cells #[.int .i64 t.x, .int .i64 t.y, .int .i64 t.a, .int .i64 t.b] 48)).heap.size = w5.heap.size + 1 := by simp
    have TT6 : Turns (fun j => j = p ∨ j = g) w (w5.alloc (.cells #[.int .i64 t.x, .int .i64 t.y, .int .i64 t.a, .int .i64 t.b] 48)) := TT5.trans (TA.mono (fun _ _ h => h.elim))
    obtain ⟨w6, hw6e⟩ : ∃ w6, w5.alloc (.cells #[.int .i64 t.x, .int .i64 t.y, .int .i64 t.a, .int .i64 t.b] 48) = w6 := ⟨_, rfl⟩
    rw [hw6e] at FB u1 u2 u3 u4 u5 u6 u8 hz6 TT6 ⊢
    clear hw6e TA s1 s2 s3 s4 s5 s6 s8 TT5 c0 c1 c2 c3 zz
    obtain ⟨L, hL⟩ : ∃ L, allC t.x t.y t.a t.b = L := ⟨_, rfl⟩
    have hseq := cells_stops (10 - 1) w5.heap.size L.length t.x t.y t.a t.b w6 FB (by rw [← hL]; exact allC_le)
    rw [hL] at hseq
    refine wpIn_rangeFunc_ownH rfl (by omega) (gf := 76) (lb := #[ptr w5.heap.size]) rfl trivial (enters_of Tryz.func76 (by kernel_rfl) rfl)
      hseq kB_t (kB_b (by omega)) (Below.refl _ _) (fun _ => rfl)
      (fun pre W => Who W bm n (delAll f pre) ∧ Turns (fun j => j = bm) w6 W)
      (fun c pre W => False)
      (OwnFrom.and (ownFrom_who0 (by omega)) (ownFrom_turns (Nat.le_refl _)))
      (fun c s X Y row hs hg hr => hs)
      ⟨by rw [delAll_nil]; exact u2, Turns.refl _ _⟩
      (fun q a' W => ∃ Bx, w6.heap.size ≤ Bx ∧ Two W Bx q.1.1 q.1.2 ∧ a' = { tmps := #[ptr p, .int .i64 i, ptr w.heap.size, undef, ptr (w.heap.size + 1), .int .i64 0, .int .i64 (k : Nat), .bool true, ptr w2.heap.size, ptr Bx, ptr p, .bool true, .bool false, undef, .tuple #[.int .i64 (k : Nat), .bool true], ptr p, .int .i64 i, .tuple #[.int .i64 (k : Nat), .bool true], .int .i64 (k : Nat), .bool true, .bool true, .bool false, undef, ptr p, ptr p, .pointer (some ⟨p, 5, none⟩), .slice (some ⟨g, 0, none⟩) l.length cap, .int .i64 (k : Nat), .pointer (some ⟨g, k * 5, none⟩), .pointer (some ⟨g, k * 5 + 1, none⟩), rct t.x t.y t.a t.b, ptr p, ptr p, ptr p, .pointer (some ⟨p, 5, none⟩), .slice (some ⟨g, 0, none⟩) l.length cap, .int .i64 (k : Nat), .int .i64 (k : Nat), .int .i64 ((k : Int) + 1), .slice (some ⟨g, 0, none⟩) (l.length - 1) cap, ptr p, .pointer (some ⟨p, 5, none⟩), rct t.x t.y t.a t.b, .func (.func 76) #[] #[ptr w5.heap.size], cel q.1.1 q.1.2, undef, undef, undef, undef, undef, undef, undef, undef, undef, undef, undef, undef, undef, undef, undef, undef], defers := [] })
      (fun q a' _ X Y row hs hg hr => by obtain ⟨Bx, e1, e2, e3⟩ := hs; exact ⟨Bx, e1, e2.own hg (fun r e => (hr r e).2), e3⟩)
      ?assign ?body ?done ?stop
    case assign =>
      rintro lo pre q W K ⟨hwh, hT⟩ hK
      have hsB := hT.size
      gi_wp2
      exact hK _ _ ((KeepsOthers.alloc _ _).from _) (Below.heap_alloc _ _ _ (by omega)) ⟨hwh.kept (Turns.of_below (S := NoB) (box1 _ _)) id, hT.trans (Turns.of_below (box1 _ _))⟩ ⟨W.heap.size, by omega, Two.newAt rfl, rfl⟩
    case body =>
      rintro lo pre q a' W hlo ⟨r, hr⟩ ⟨hwh, hT⟩ ⟨Bx, hBx, bX, rfl⟩ hlt
      have hsB := hT.size
      have hdW := u1.kept hT (fun e => hpb e.symm)
      have PW := boxed_kept u4 hT (by omega)
      obtain ⟨W1, hdel, hw5, hg5⟩ := (show Who W.drew bm n (delAll f pre) from hwh).drop q.2.1 q.2.2 0
      have x0 := bX.1.1
      have x1 := bX.1.2
      have y0 := PW.cell
      have y6 : W.cell? ⟨p, 6, none⟩ = some (.map (some bm)) := hdW.c 6
      have KF : KeepsFrom w6.heap.size W W1 := ⟨hg5.size, fun j o hB hk ho => (hg5.block j (Array.getElem?_eq_some_iff.1 hk).1 (fun e => by cases e; omega)).trans hk⟩
      have KK : KB w5.heap.size W W1 := hg5.block w5.heap.size (show w5.heap.size < W.heap.size by omega) (fun e => by cases e; omega)
      have hI : Who W1 bm n (delAll f (pre ++ [q])) ∧ Turns (fun j => j = bm) w6 W1 :=
        ⟨by rw [delAll_snoc]; exact hw5, hT.trans ((Turns.of_grown (w := W.drew) hg5 (fun j e => by cases e; exact .inl rfl)).undrew)⟩
      have HI := hide hI
      clear hg5 hw5 hwh hdW PW hI
      gi_wp2_with fail
      gi_region
      all_goals
        gi_wp2
        exact ⟨KF, KK, HI.out⟩
    case done =>
      rintro D xs w7 hD hxs ⟨hwh, hT⟩ hK
      rw [hxs] at hwh
      have hT7 := hT.size
      have y1 := u1.kept hT (fun e => hpb e.symm)
      have y3 := u3.kept hT (fun j e h => by subst h; exact row_ne_map u3 u2 e)
      have y4 := boxed_kept u4 hT (by omega)
      have y5 := u5.kept hT (fun j e h => by subst h; exact row_ne_map u5 u2 e)
      have y6 := u6.turn hT (by omega)
      have y8 := u8.turn hT (by omega)
      have TT7 : Turns (fun j => j = p ∨ j = bm ∨ j = g) w w7 := (TT6.mono (fun j _ h => h.elim .inl (fun h => .inr (.inr h)))).trans (hT.mono (fun j _ h => .inl (.inr (.inl h))))
      clear u1 u2 u3 u4 u5 u6 u8 hT TT6 FB hseq
      obtain ⟨fi, hf, hz, h4, h32⟩ := info_parts info43
      have hm1 : es.length + 1 ≤ maxLen := by unfold maxLen; omega
      have gS : ∀ wx, Boxed wx w.heap.size 29 (ptr p) → Four wx w2.heap.size t.x t.y t.a t.b → (wx.cell? ⟨w.heap.size, 0, none⟩ = some (ptr p) ∧ wx.cell? ⟨w2.heap.size, 0, none⟩ = some (.int .i64 t.x) ∧ wx.cell? ⟨w2.heap.size, 1, none⟩ = some (.int .i64 t.y) ∧ wx.cell? ⟨w2.heap.size, 2, none⟩ = some (.int .i64 t.a) ∧ wx.cell? ⟨w2.heap.size, 3, none⟩ = some (.int .i64 t.b)) := fun wx hb h8 => ⟨hb.cell, h8.1.1, h8.1.2.1, h8.1.2.2.1, h8.1.2.2.2⟩
      have gS0 := gS w7 y4 y8
      have gS1 : ∀ o, ((w7.alloc o).cell? ⟨w.heap.size, 0, none⟩ = some (ptr p) ∧ (w7.alloc o).cell? ⟨w2.heap.size, 0, none⟩ = some (.int .i64 t.x) ∧ (w7.alloc o).cell? ⟨w2.heap.size, 1, none⟩ = some (.int .i64 t.y) ∧ (w7.alloc o).cell? ⟨w2.heap.size, 2, none⟩ = some (.int .i64 t.a) ∧ (w7.alloc o).cell? ⟨w2.heap.size, 3, none⟩ = some (.int .i64 t.b)) := fun o => gS _ (y4.alloc o) (y8.turn (Turns.of_below (S := NoB) (box1 w7 o)) id)
      have hev : ev.ownBlock ≠ some w.heap.size := fun e => by have := hrowe _ e; omega
      have hev2 : ev.ownBlock ≠ some w2.heap.size := fun e => by have := hrowe _ e; omega
      have hev3 : ev.ownBlock ≠ some (w.heap.size + 1) := fun e => by have := hrowe _ e; omega
      have hevD : ev.ownBlock ≠ some D := fun e => by have := hrowe _ e; omega
      have hevp : ev.ownBlock ≠ some p := y1.ne_row y5 (by decide)
      have hT8 : ∀ {wx : World} {o : Obj}, (w7.alloc o).drew.grownBy wx ev.ownBlock → Turns (fun j => ev.ownBlock = some j) w7 wx := fun {wx o} hg =>
        (Turns.of_below (box1 w7 o)).trans ((Turns.of_grown (w := (w7.alloc o).drew) hg (fun j e => Or.inl e)).undrew)
      have gS2 : ∀ {wx : World} {o : Obj}, (w7.alloc o).drew.grownBy wx ev.ownBlock → (wx.cell? ⟨w.heap.size, 0, none⟩ = some (ptr p) ∧ wx.cell? ⟨w2.heap.size, 0, none⟩ = some (.int .i64 t.x) ∧ wx.cell? ⟨w2.heap.size, 1, none⟩ = some (.int .i64 t.y) ∧ wx.cell? ⟨w2.heap.size, 2, none⟩ = some (.int .i64 t.a) ∧ wx.cell? ⟨w2.heap.size, 3, none⟩ = some (.int .i64 t.b)) := fun {wx o} hg => gS wx (boxed_kept y4 (hT8 hg) hev) (y8.turn (hT8 hg) hev2)
      have gS3 : ∀ {wx : World} {o : Obj} {v : Value}, (w7.alloc o).drew.grownBy wx ev.ownBlock → ((wx.setCell ⟨p, 7, none⟩ v).cell? ⟨w.heap.size, 0, none⟩ = some (ptr p) ∧ (wx.setCell ⟨p, 7, none⟩ v).cell? ⟨w2.heap.size, 0, none⟩ = some (.int .i64 t.x) ∧ (wx.setCell ⟨p, 7, none⟩ v).cell? ⟨w2.heap.size, 1, none⟩ = some (.int .i64 t.y) ∧ (wx.setCell ⟨p, 7, none⟩ v).cell? ⟨w2.heap.size, 2, none⟩ = some (.int .i64 t.a) ∧ (wx.setCell ⟨p, 7, none⟩ v).cell? ⟨w2.heap.size, 3, none⟩ = some (.int .i64 t.b)) := fun {wx o v} hg =>
        gS _ (boxed_kept (boxed_kept y4 (hT8 hg) hev) (Turns.set (S := fun j => j = p) wx (p := ⟨p, 7, none⟩) rfl v) (by omega)) ((y8.turn (hT8 hg) hev2).turn (Turns.set (S := fun j => j = p) wx (p := ⟨p, 7, none⟩) rfl v) (by omega))
      have hW8 : ∀ {wx : World} {o : Obj}, (w7.alloc o).drew.grownBy wx ev.ownBlock → Wd wx p W_ H tv (.slice (some ⟨g, 0, none⟩) (l.length - 1) cap) bm ev := fun {wx o} hg => y1.kept (hT8 hg) hevp
      have b7 : w7.cell? ⟨p, 7, none⟩ = some ev := y1.c 7
      have b7' : ∀ o, (w7.alloc o).cell? ⟨p, 7, none⟩ = some ev := fun o => (y1.kept (Turns.of_below (S := NoB) (box1 w7 o)) id).c 7
      have HE := hide y5
      gi_wp2_with fail
      refine wpIn_wide.2 ?_
      refine Code.wp_mono (Q := Only (fun a' w' => ∃ w8 g3 cap3, a' = { tmps := #[ptr p, .int .i64 i, ptr w.heap.size, undef, ptr (w.heap.size + 1), .int .i64 0, .int .i64 (k : Nat), .bool true, ptr w2.heap.size, undef, ptr p, .bool true, .bool false, undef, .tuple #[.int .i64 (k : Nat), .bool true], ptr p, .int .i64 i, .tuple #[.int .i64 (k : Nat), .bool true], .int .i64 (k : Nat), .bool true, .bool true, .bool false, undef, ptr p, ptr p, .pointer (some ⟨p, 5, none⟩), .slice (some ⟨g, 0, none⟩) l.length cap, .int .i64 (k : Nat), .pointer (some ⟨g, k * 5, none⟩), .pointer (some ⟨g, k * 5 + 1, none⟩), rct t.x t.y t.a t.b, ptr p, ptr p, ptr p, .pointer (some ⟨p, 5, none⟩), .slice (some ⟨g, 0, none⟩) l.length cap, .int .i64 (k : Nat), .int .i64 (k : Nat), .int .i64 ((k : Int) + 1), .slice (some ⟨g, 0, none⟩) (l.length - 1) cap, ptr p, .pointer (some ⟨p, 5, none⟩), rct t.x t.y t.a t.b, .func (.func 76) #[] #[ptr w5.heap.size], undef, undef, undef, undef, undef, undef, ptr p, ptr p, ptr p, .pointer (some ⟨p, 7, none⟩), ev, rct t.x t.y t.a t.b, .slice (some ⟨w7.heap.size, 0, none⟩) 1 1, .slice (some ⟨g3, 0, none⟩) (es.length + 1) cap3, ptr p, .pointer (some ⟨p, 7, none⟩), undef], defers := [{ target := .collected D, args := #[] }] } ∧ w' = w8.setCell ⟨p, 7, none⟩ (.slice (some ⟨g3, 0, none⟩) (es.length + 1) cap3) ∧ (w7.alloc (.cells #[.int .i64 t.x, .int .i64 t.y, .int .i64 t.a, .int .i64 t.b] 48)).drew.grownBy w8 ev.ownBlock ∧ w8.ownsRow 0 48 4 (.slice (some ⟨g3, 0, none⟩) (es.length + 1) cap3) (es.length + 1) (es.flatMap Rc.cs ++ t.foot.cs) ∧ ((Value.slice (some ⟨g3, 0, none⟩) (es.length + 1) cap3).ownBlock = ev.ownBlock ∨ (Value.slice (some ⟨g3, 0, none⟩) (es.length + 1) cap3).ownBlock = some (w7.alloc (.cells #[.int .i64 t.x, .int .i64 t.y, .int .i64 t.a, .int .i64 t.b] 48)).drew.heap.size))) ?rest2 ?_
      case rest2 =>
        rintro (_ | _ | _ | _ | _) a' w' hO
        all_goals first | exact hO.elim | skip
        obtain ⟨w8, g3, cap3, rfl, rfl, hgrow, hown, hloc⟩ := hO
        have T8 := hT8 hgrow
        have hd8 := hW8 hgrow
        have TS : Turns (fun j => j = p) w8 (w8.setCell ⟨p, 7, none⟩ (.slice (some ⟨g3, 0, none⟩) (es.length + 1) cap3)) := Turns.set (S := fun j => j = p) w8 (p := ⟨p, 7, none⟩) rfl _
        have v1 := hd8.set7 (.slice (some ⟨g3, 0, none⟩) (es.length + 1) cap3)
        have l8 := y3.kept T8 (fun j e h => rows_ne y3 y5 (by decide) e h)
        have v3 := l8.kept TS (fun j e h => by subst h; exact hd8.ne_row l8 (by decide) e)
        have v2 := (hwh.kept T8 (row_ne_map y5 hwh)).kept TS hpb
        have r8 : Rcs w8 (.slice (some ⟨g3, 0, none⟩) (es.length + 1) cap3) (es ++ [t.foot]) := by simpa [Rcs] using hown
        have v5 := r8.kept TS (fun j e h => by subst h; exact hd8.ne_row r8 (by decide) e)
        have v8 := (y8.turn T8 hev2).turn TS (by omega)
        have v6 := (y6.turn T8 hev3).turn TS (by omega)
        have vK := TS.same (by omega) (T8.same hevD hK)
        have TT9 : Turns (fun j => j = p ∨ j = bm ∨ j = g ∨ ev.ownBlock = some j) w (w8.setCell ⟨p, 7, none⟩ (.slice (some ⟨g3, 0, none⟩) (es.length + 1) cap3)) := by
          refine ((TT7.mono (fun j _ h => ?_)).trans (T8.mono (fun j _ h => .inl (.inr (.inr (.inr h)))))).trans (TS.mono (fun j _ h => .inl (.inl h)))
          rcases h with h | h | h
          · exact .inl h
          · exact .inr (.inl h)
          · exact .inr (.inr (.inl h))
        have hevN : ∀ j, (Value.slice (some ⟨g3, 0, none⟩) (es.length + 1) cap3).ownBlock = some j → ev.ownBlock = some j ∨ w7.heap.size ≤ j := fun j e => by
          rcases hloc with h | h
          · exact .inl (by rw [← h]; exact e)
          · rw [h] at e
            simp at e
            right
            omega
        have h77 := TT7.size
        have hev' : ∀ j, (Value.slice (some ⟨g3, 0, none⟩) (es.length + 1) cap3).ownBlock = some j → ev.ownBlock = some j ∨ w.heap.size ≤ j := fun j e => (hevN j e).elim .inl (fun h => .inr (by omega))
        have hDw := (Array.getElem?_eq_some_iff.1 hK).1
        have hz9 : w7.heap.size ≤ (w8.setCell ⟨p, 7, none⟩ (.slice (some ⟨g3, 0, none⟩) (es.length + 1) cap3)).heap.size := Nat.le_trans T8.size TS.size
        obtain ⟨w9, hw9e⟩ : ∃ w9, w8.setCell ⟨p, 7, none⟩ (.slice (some ⟨g3, 0, none⟩) (es.length + 1) cap3) = w9 := ⟨_, rfl⟩
        rw [hw9e] at v1 v2 v3 v5 v6 v8 vK TT9 TS hz9 ⊢
        clear hw9e TS T8 hd8 l8 r8 hgrow hown hloc gS gS0 gS1 gS2 gS3 hW8 hT8 b7 b7' HE y1 y3 y4 y5 y6 y8 TT7 hwh
        obtain ⟨⟨c0, c1, c2, c3⟩, _, zz⟩ := id v8
        obtain ⟨⟨d0, d1, d2, d3⟩, ⟨f0, f1, f2, f3⟩, zq⟩ := id v6
        have HV := hide v1
        clear v1
        gi_wp2_with fail
        have v7 := v6.set t.x t.y t.a t.b
        have TR : Turns (fun j => j = w.heap.size + 1) w9 ((((w9.setCell ⟨w.heap.size + 1, 0, none⟩ (.int .i64 t.x)).setCell ⟨w.heap.size + 1, 1, none⟩ (.int .i64 t.y)).setCell ⟨w.heap.size + 1, 2, none⟩ (.int .i64 t.a)).setCell ⟨w.heap.size + 1, 3, none⟩ (.int .i64 t.b)) :=
          (((Turns.set (S := fun j => j = w.heap.size + 1) w9 (p := ⟨w.heap.size + 1, 0, none⟩) rfl _).trans (Turns.set (S := fun j => j = w.heap.size + 1 ∨ _) _ (p := ⟨w.heap.size + 1, 1, none⟩) (.inl rfl) _)).trans (Turns.set (S := fun j => j = w.heap.size + 1 ∨ _) _ (p := ⟨w.heap.size + 1, 2, none⟩) (.inl rfl) _)).trans (Turns.set (S := fun j => j = w.heap.size + 1 ∨ _) _ (p := ⟨w.heap.size + 1, 3, none⟩) (.inl rfl) _)
        obtain ⟨w10, hw10⟩ : ∃ w10, (((w9.setCell ⟨w.heap.size + 1, 0, none⟩ (.int .i64 t.x)).setCell ⟨w.heap.size + 1, 1, none⟩ (.int .i64 t.y)).setCell ⟨w.heap.size + 1, 2, none⟩ (.int .i64 t.a)).setCell ⟨w.heap.size + 1, 3, none⟩ (.int .i64 t.b) = w10 := ⟨_, rfl⟩
        rw [hw10] at v7 TR ⊢
        have hK10 := TR.same (by omega) vK
        refine ⟨by simp, .inl ⟨_, _, rfl, run_takeDeferred hK10, ?_⟩⟩
        have TD : Turns (fun j => j = D) w10 (w10.putObj D (.deferred none)) := Turns.of_grown (grownBy_putObj' w10 D (.deferred none)) (fun j e => by cases e; rfl)
        obtain ⟨⟨q0, q1, q2, q3⟩, _, _⟩ := v7.turn TD (by omega)
        have hTall : Turns (fun j => j = w.heap.size + 1 ∨ j = D) w9 (w10.putObj D (.deferred none)) := (TR.mono (fun j _ h => .inl h)).trans (TD.mono (fun j _ h => .inl (.inr h)))
        have hr3 := (v3.lt g rfl).2
        refine ⟨.tuple #[rct t.x t.y t.a t.b, .int .i64 0], by simp [results, Tryz.f23, go_sem, q0, q1, q2, q3], rfl, _, _, HV.out.kept hTall (fun h => by omega), v3.kept hTall (fun j e h => ?_), ?_, v5.kept hTall (fun j e h => ?_), ?_, fun j e => .inl e, hev'⟩
        · simp only [Value.ownBlock, Option.some.injEq] at e; omega
        · rw [hL]; exact v2.kept hTall (fun h => by omega)
        · have h1 := (v5.lt j e).2
          rcases hevN j e with h2 | h2
          · have := hrowe j h2; omega
          · omega
        · refine (TT9.mono (fun j _ h => ?_)).trans (hTall.mono (fun j _ h => .inr (by omega)))
          rcases h with h | h | h | h
          · exact .inl h
          · exact .inr (.inl h)
          · exact .inr (.inr (.inl (by rw [h]; rfl)))
          · exact .inr (.inr (.inr h))
      refine wp_region_held_drew (S := fun w' => (w'.cell? ⟨w.heap.size, 0, none⟩ = some (ptr p) ∧ w'.cell? ⟨w2.heap.size, 0, none⟩ = some (.int .i64 t.x) ∧ w'.cell? ⟨w2.heap.size, 1, none⟩ = some (.int .i64 t.y) ∧ w'.cell? ⟨w2.heap.size, 2, none⟩ = some (.int .i64 t.a) ∧ w'.cell? ⟨w2.heap.size, 3, none⟩ = some (.int .i64 t.b))) (by kernel_rfl) gS0 (fun hHeld => ?_)
      refine wpAnyH_take (i := 0) (v := ?_) rfl (by kernel_rfl) (by kernel_rfl) (by kernel_rfl) (fun _ _ _ h => h.elim) (Or.inl ⟨by rfl, ?_⟩) (by assumption) ?_
      rotate_left
      · intro wx hSw
        try dsimp only at hSw
        go_simp
        try with_reducible rfl
      try simp only [Act.put, List.getElem_toArray, List.getElem_cons_zero, List.setIfInBounds_toArray, List.set_cons_zero, List.set_cons_succ]
      refine wpAnyH_take (i := 1) (v := ?_) rfl (by kernel_rfl) (by kernel_rfl) (by kernel_rfl) (fun _ _ _ h => h.elim) (Or.inl ⟨by rfl, ?_⟩) (by assumption) ?_
      rotate_left
      · intro wx hSw
        try dsimp only at hSw
        go_simp
        try with_reducible rfl
      try simp only [Act.put, List.getElem_toArray, List.getElem_cons_zero, List.getElem_cons_succ, List.setIfInBounds_toArray, List.set_cons_zero, List.set_cons_succ]
      refine wpAnyH_take (i := 2) (v := ?_) rfl (by kernel_rfl) (by kernel_rfl) (by kernel_rfl) (fun _ _ _ h => h.elim) (Or.inl ⟨by rfl, ?_⟩) (by assumption) ?_
      rotate_left
      · intro wx hSw
        try dsimp only at hSw
        go_simp
        try with_reducible rfl
      try simp only [Act.put, List.getElem_toArray, List.getElem_cons_zero, List.getElem_cons_succ, List.setIfInBounds_toArray, List.set_cons_zero, List.set_cons_succ]
      refine wpAnyH_take (i := 3) (v := ?_) rfl (by kernel_rfl) (by kernel_rfl) (by kernel_rfl) (fun _ _ _ h => h.elim) (Or.inl ⟨by rfl, ?_⟩) (by assumption) ?_
      rotate_left
      · intro wx hSw
        try dsimp only at hSw
        go_simp
        try with_reducible rfl
      try simp only [Act.put, List.getElem_toArray, List.getElem_cons_zero, List.getElem_cons_succ, List.setIfInBounds_toArray, List.set_cons_zero, List.set_cons_succ]
      refine wpAnyH_take (i := 5) (v := ?_) rfl (by kernel_rfl) (by kernel_rfl) (by kernel_rfl) (fun _ _ _ h => h.elim) (Or.inl ⟨by rfl, ?_⟩) (by assumption) ?_
      rotate_left
      · intro wx hSw
        try dsimp only at hSw
        go_simp
        try with_reducible rfl
      try simp only [Act.put, List.getElem_toArray, List.getElem_cons_zero, List.getElem_cons_succ, List.setIfInBounds_toArray, List.set_cons_zero, List.set_cons_succ]
      refine wpAnyH_ready (rs := [4, 6]) (by kernel_rfl) (by simp) ?_
      refine AllReadyH.cons rfl (fun K hK => ?_) ?_
      · go_simp
        refine hK.out _ _ ?_ (fun hHeld => ?_)
        · first | exact gS0 | exact gS1 _ | exact gS2 (by assumption) | exact gS3 (by assumption)
        clear hK K
        try simp only [Act.put, List.getElem_toArray, List.getElem_cons_zero, List.getElem_cons_succ, List.setIfInBounds_toArray, List.set_cons_zero, List.set_cons_succ]
        refine wpAnyH_ready (rs := [6]) (by kernel_rfl) (by simp) ?_
        refine AllReadyH.cons rfl (fun K hK => ?_) ?_
        · go_simp
          refine hK.out _ _ ?_ (fun hHeld => ?_)
          · first | exact gS0 | exact gS1 _ | exact gS2 (by assumption) | exact gS3 (by assumption)
          clear hK K
          try simp only [Act.put, List.getElem_toArray, List.getElem_cons_zero, List.getElem_cons_succ, List.setIfInBounds_toArray, List.set_cons_zero, List.set_cons_succ]
          refine wpAnyH_ready (rs := [7]) (by kernel_rfl) (by simp) ?_
          refine AllReadyH.cons rfl (fun K hK => ?_) ?_
          · refine step_append_row rfl _ _ 90 rfl 48 fi z43 4 32 Tryz.underlying90 hf hz h4 h32 rfl (by decide) ev es.length _ (by simp [Act.eval]) (HE.out.alloc _) ⟨w7.heap.size, 0, none⟩ 1 1 t.foot.cs (by simp [Act.eval]) rfl (rc_new w7 t.foot) one_rc hm1 hes ?_
            intro v' w8 hown hgrow hloc'
            obtain ⟨g3, cap3, rfl⟩ := row_form hown
            have hd8 := hW8 hgrow
            have c78 : w8.cell? ⟨p, 7, none⟩ = some ev := hd8.c 7
            have f78 := hd8.f 7
            refine hK.out _ _ ?_ (fun hHeld => ?_)
            · first | exact gS0 | exact gS1 _ | exact gS2 (by assumption) | exact gS3 (by assumption)
            clear hK K
            try simp only [Act.put, List.getElem_toArray, List.getElem_cons_zero, List.getElem_cons_succ, List.setIfInBounds_toArray, List.set_cons_zero, List.set_cons_succ]
            refine wpAnyH_take (i := 8) (v := ?_) rfl (by kernel_rfl) (by kernel_rfl) (by kernel_rfl) (fun _ _ _ h => h.elim) (Or.inl ⟨by rfl, ?_⟩) (by assumption) ?_
            rotate_left
            · intro wx hSw
              try dsimp only at hSw
              go_simp
              try with_reducible rfl
            try simp only [Act.put, List.getElem_toArray, List.getElem_cons_zero, List.getElem_cons_succ, List.setIfInBounds_toArray, List.set_cons_zero, List.set_cons_succ]
            refine wpAnyH_take (i := 9) (v := ?_) rfl (by kernel_rfl) (by kernel_rfl) (by kernel_rfl) (fun _ _ _ h => h.elim) (Or.inl ⟨by rfl, ?_⟩) (by assumption) ?_
            rotate_left
            · intro wx hSw
              try dsimp only at hSw
              go_simp
              try with_reducible rfl
            try simp only [Act.put, List.getElem_toArray, List.getElem_cons_zero, List.getElem_cons_succ, List.setIfInBounds_toArray, List.set_cons_zero, List.set_cons_succ]
            refine wpAnyH_ready (rs := [10]) (by kernel_rfl) (by simp) ?_
            refine AllReadyH.cons rfl (fun K hK => ?_) ?_
            · go_simp
              refine hK.out _ _ ?_ (fun hHeld => ?_)
              · first | exact gS0 | exact gS1 _ | exact gS2 (by assumption) | exact gS3 (by assumption)
              clear hK K
              try simp only [Act.put, List.getElem_toArray, List.getElem_cons_zero, List.getElem_cons_succ, List.setIfInBounds_toArray, List.set_cons_zero, List.set_cons_succ]
              refine wpAnyH_done (by kernel_rfl) ?_ _
              exact ⟨_, _, _, rfl, rfl, hgrow, hown, hloc'⟩
            exact AllReadyH.nil
          exact AllReadyH.nil
        exact AllReadyH.nil
      refine AllReadyH.cons rfl (fun K hK => ?_) ?_
      · go_simp
        refine hK.out _ _ ?_ (fun hHeld => ?_)
        · first | exact gS0 | exact gS1 _ | exact gS2 (by assumption) | exact gS3 (by assumption)
        clear hK K
        try simp only [Act.put, List.getElem_toArray, List.getElem_cons_zero, List.getElem_cons_succ, List.setIfInBounds_toArray, List.set_cons_zero, List.set_cons_succ]
        refine wpAnyH_ready (rs := [4]) (by kernel_rfl) (by simp) ?_
        refine AllReadyH.cons rfl (fun K hK => ?_) ?_
        · go_simp
          refine hK.out _ _ ?_ (fun hHeld => ?_)
          · first | exact gS0 | exact gS1 _ | exact gS2 (by assumption) | exact gS3 (by assumption)
          clear hK K
          try simp only [Act.put, List.getElem_toArray, List.getElem_cons_zero, List.getElem_cons_succ, List.setIfInBounds_toArray, List.set_cons_zero, List.set_cons_succ]
          refine wpAnyH_ready (rs := [7]) (by kernel_rfl) (by simp) ?_
          refine AllReadyH.cons rfl (fun K hK => ?_) ?_
          · refine step_append_row rfl _ _ 90 rfl 48 fi z43 4 32 Tryz.underlying90 hf hz h4 h32 rfl (by decide) ev es.length _ (by simp [Act.eval]) (HE.out.alloc _) ⟨w7.heap.size, 0, none⟩ 1 1 t.foot.cs (by simp [Act.eval]) rfl (rc_new w7 t.foot) one_rc hm1 hes ?_
            intro v' w8 hown hgrow hloc'
            obtain ⟨g3, cap3, rfl⟩ := row_form hown
            have hd8 := hW8 hgrow
            have c78 : w8.cell? ⟨p, 7, none⟩ = some ev := hd8.c 7
            have f78 := hd8.f 7
            refine hK.out _ _ ?_ (fun hHeld => ?_)
            · first | exact gS0 | exact gS1 _ | exact gS2 (by assumption) | exact gS3 (by assumption)
            clear hK K
            try simp only [Act.put, List.getElem_toArray, List.getElem_cons_zero, List.getElem_cons_succ, List.setIfInBounds_toArray, List.set_cons_zero, List.set_cons_succ]
            refine wpAnyH_take (i := 8) (v := ?_) rfl (by kernel_rfl) (by kernel_rfl) (by kernel_rfl) (fun _ _ _ h => h.elim) (Or.inl ⟨by rfl, ?_⟩) (by assumption) ?_
            rotate_left
            · intro wx hSw
              try dsimp only at hSw
              go_simp
              try with_reducible rfl
            try simp only [Act.put, List.getElem_toArray, List.getElem_cons_zero, List.getElem_cons_succ, List.setIfInBounds_toArray, List.set_cons_zero, List.set_cons_succ]
            refine wpAnyH_take (i := 9) (v := ?_) rfl (by kernel_rfl) (by kernel_rfl) (by kernel_rfl) (fun _ _ _ h => h.elim) (Or.inl ⟨by rfl, ?_⟩) (by assumption) ?_
            rotate_left
            · intro wx hSw
              try dsimp only at hSw
              go_simp
              try with_reducible rfl
            try simp only [Act.put, List.getElem_toArray, List.getElem_cons_zero, List.getElem_cons_succ, List.setIfInBounds_toArray, List.set_cons_zero, List.set_cons_succ]
            refine wpAnyH_ready (rs := [10]) (by kernel_rfl) (by simp) ?_
            refine AllReadyH.cons rfl (fun K hK => ?_) ?_
            · go_simp
              refine hK.out _ _ ?_ (fun hHeld => ?_)
              · first | exact gS0 | exact gS1 _ | exact gS2 (by assumption) | exact gS3 (by assumption)
              clear hK K
              try simp only [Act.put, List.getElem_toArray, List.getElem_cons_zero, List.getElem_cons_succ, List.setIfInBounds_toArray, List.set_cons_zero, List.set_cons_succ]
              refine wpAnyH_done (by kernel_rfl) ?_ _
              exact ⟨_, _, _, rfl, rfl, hgrow, hown, hloc'⟩
            exact AllReadyH.nil
          exact AllReadyH.nil
        exact AllReadyH.nil
      exact AllReadyH.nil
    case stop =>
      rintro D c pre W hD hpre hIx hK
      exact hIx.elim
  refine wp_region_held_drew (S := fun w' => w'.cell? ⟨w.heap.size, 0, none⟩ = some (ptr p)) (by kernel_rfl) hS0 (fun hHeld => ?_)
  refine wpAnyH_take (i := 0) (v := ?_) rfl (by kernel_rfl) (by kernel_rfl) (by kernel_rfl) (fun _ _ _ h => h.elim) (Or.inl ⟨by rfl, ?_⟩) (by assumption) ?_
  rotate_left
  · intro wx hSw
    try dsimp only at hSw
    go_simp
    try with_reducible rfl
  try simp only [Act.put, List.getElem_toArray, List.getElem_cons_zero, List.setIfInBounds_toArray, List.set_cons_zero, List.set_cons_succ]
  refine wpAnyH_take (i := 1) (v := ?_) rfl (by kernel_rfl) (by kernel_rfl) (by kernel_rfl) (fun _ _ _ h => h.elim) (Or.inl ⟨by rfl, ?_⟩) (by assumption) ?_
  rotate_left
  · intro wx hSw
    try dsimp only at hSw
    go_simp
    try with_reducible rfl
  try simp only [Act.put, List.getElem_toArray, List.getElem_cons_zero, List.getElem_cons_succ, List.setIfInBounds_toArray, List.set_cons_zero, List.set_cons_succ]
  refine wpAnyH_take (i := 2) (v := ?_) rfl (by kernel_rfl) (by kernel_rfl) (by kernel_rfl) (fun _ _ _ h => h.elim) (Or.inl ⟨by rfl, ?_⟩) (by assumption) ?_
  rotate_left
  · intro wx hSw
    try dsimp only at hSw
    go_simp
    try with_reducible rfl
  try simp only [Act.put, List.getElem_toArray, List.getElem_cons_zero, List.getElem_cons_succ, List.setIfInBounds_toArray, List.set_cons_zero, List.set_cons_succ]
  refine wpAnyH_take (i := 3) (v := ?_) rfl (by kernel_rfl) (by kernel_rfl) (by kernel_rfl) (fun _ _ _ h => h.elim) (Or.inl ⟨by rfl, ?_⟩) (by assumption) ?_
  rotate_left
  · intro wx hSw
    try dsimp only at hSw
    go_simp
    try with_reducible rfl
  try simp only [Act.put, List.getElem_toArray, List.getElem_cons_zero, List.getElem_cons_succ, List.setIfInBounds_toArray, List.set_cons_zero, List.set_cons_succ]
  refine wpAnyH_take (i := 5) (v := ?_) rfl (by kernel_rfl) (by kernel_rfl) (by kernel_rfl) (fun _ _ _ h => h.elim) (Or.inl ⟨by rfl, ?_⟩) (by assumption) ?_
  rotate_left
  · intro wx hSw
    try dsimp only at hSw
    go_simp
    try with_reducible rfl
  try simp only [Act.put, List.getElem_toArray, List.getElem_cons_zero, List.getElem_cons_succ, List.setIfInBounds_toArray, List.set_cons_zero, List.set_cons_succ]
  refine wpAnyH_take (i := 6) (v := ?_) rfl (by kernel_rfl) (by kernel_rfl) (by kernel_rfl) (fun _ _ _ h => h.elim) (Or.inl ⟨by rfl, ?_⟩) (by assumption) ?_
  rotate_left
  · intro wx hSw
    try dsimp only at hSw
    go_simp
    try with_reducible rfl
  try simp only [Act.put, List.getElem_toArray, List.getElem_cons_zero, List.getElem_cons_succ, List.setIfInBounds_toArray, List.set_cons_zero, List.set_cons_succ]
  refine wpAnyH_take (i := 7) (v := ?_) rfl (by kernel_rfl) (by kernel_rfl) (by kernel_rfl) (fun _ _ _ h => h.elim) (Or.inl ⟨by rfl, ?_⟩) (by assumption) ?_
  rotate_left
  · intro wx hSw
    try dsimp only at hSw
    go_simp
    try with_reducible rfl
  try simp only [Act.put, List.getElem_toArray, List.getElem_cons_zero, List.getElem_cons_succ, List.setIfInBounds_toArray, List.set_cons_zero, List.set_cons_succ]
  refine wpAnyH_ready (rs := [4]) (by kernel_rfl) (by simp) ?_
  refine AllReadyH.cons rfl (fun K hK => ?_) ?_
  · go_simp
    refine hK.out _ _ ?_ (fun hHeld => ?_)
    · first | exact hS0 | exact hS2 (by assumption) | exact hS3 (by assumption)
    clear hK K
    try simp only [Act.put, List.getElem_toArray, List.getElem_cons_zero, List.getElem_cons_succ, List.setIfInBounds_toArray, List.set_cons_zero, List.set_cons_succ]
    refine wpAnyH_ready (rs := [8]) (by kernel_rfl) (by simp) ?_
    refine AllReadyH.cons rfl (fun K hK => ?_) ?_
    · go_simp
      refine HD.out.mono ?_
      rintro e w4 ⟨rfl, hb4, hg4⟩
      have hd4 := hW4 hg4
      have c54 : w4.cell? ⟨p, 5, none⟩ = some (.slice (some ⟨g, 0, none⟩) l.length cap) := hd4.c 5
      have f54 := hd4.f 5
      try go_wp2_with fail
      refine hK.out _ _ ?_ (fun hHeld => ?_)
      · first | exact hS0 | exact hS2 (by assumption) | exact hS3 (by assumption)
      clear hK K
      try simp only [Act.put, List.getElem_toArray, List.getElem_cons_zero, List.getElem_cons_succ, List.setIfInBounds_toArray, List.set_cons_zero, List.set_cons_succ]
      refine wpAnyH_take (i := 9) (v := ?_) rfl (by kernel_rfl) (by kernel_rfl) (by kernel_rfl) (fun _ _ _ h => h.elim) (Or.inl ⟨by rfl, ?_⟩) (by assumption) ?_
      rotate_left
      · intro wx hSw
        try dsimp only at hSw
        go_simp
        try with_reducible rfl
      try simp only [Act.put, List.getElem_toArray, List.getElem_cons_zero, List.getElem_cons_succ, List.setIfInBounds_toArray, List.set_cons_zero, List.set_cons_succ]
      refine wpAnyH_take (i := 10) (v := ?_) rfl (by kernel_rfl) (by kernel_rfl) (by kernel_rfl) (fun _ _ _ h => h.elim) (Or.inl ⟨by rfl, ?_⟩) (by assumption) ?_
      rotate_left
      · intro wx hSw
        try dsimp only at hSw
        go_simp
        try with_reducible rfl
      try simp only [Act.put, List.getElem_toArray, List.getElem_cons_zero, List.getElem_cons_succ, List.setIfInBounds_toArray, List.set_cons_zero, List.set_cons_succ]
      refine wpAnyH_ready (rs := [11]) (by kernel_rfl) (by simp) ?_
      refine AllReadyH.cons rfl (fun K hK => ?_) ?_
      · go_simp
        refine hK.out _ _ ?_ (fun hHeld => ?_)
        · first | exact hS0 | exact hS2 (by assumption) | exact hS3 (by assumption)
        clear hK K
        try simp only [Act.put, List.getElem_toArray, List.getElem_cons_zero, List.getElem_cons_succ, List.setIfInBounds_toArray, List.set_cons_zero, List.set_cons_succ]
        refine wpAnyH_done (by kernel_rfl) ?_ _
        exact ⟨w4, rfl, rfl, hb4, hg4⟩
      exact AllReadyH.nil
    exact AllReadyH.nil
  exact AllReadyH.nil
end Go.Proofs.YtoheibfijpdmfaaGreatDoor
namespace Go.Proofs.YtoheibfijpdmfaaGreatDoor
open Go.RowKit Go.Shelf
attribute [local go_sem] Oper.semAt_some
set_option linter.unusedVariables false
section
variable {w w' : World} {r : Nat} {W H : Int} {tv bv ev : Value}
end
set_option maxRecDepth 100000 in
set_option maxHeartbeats 1000000 in
theorem refplace_any (r : Nat) (W H : Int) (tv bv ev : Value) (l : List Bd) (i : Int) (w : World) (hd : Rd w r W H tv bv ev) (hl : Bds w bv l) (hs : Sorted l) (hlen : l.length ≤ 256) :
    Calls Tryz.prog 58 #[ptr r, .int .i64 i] w fun e w' => e = .returned (.int .i64 (plc l i)) ∧ w' = w := by
  obtain ⟨a, cap, rfl, hcap, hmax, hat⟩ := hl.form
  have c3 : w.cell? ⟨r, 3, none⟩ = some (.slice a l.length cap) := hd.c 3
  have hlI : (0 : Int) ≤ (l.length : Nat) ∧ ((l.length : Nat) : Int) ≤ 256 := by omega
  clear hd
  go_enter Tryz.func58, Tryz.ntmps58
  go_wp2_with fail
  go_loopw [5] (fun p wr => ∃ k : Nat, k ≤ l.length ∧ p = .int .i64 k ∧ (∀ j t, l[j]? = some t → j < k → t.id ≠ i) ∧ wr = w) (fun p _ => l.length - (intOf p).toNat)
  case atStart => exact ⟨0, Nat.zero_le _, rfl, fun j t _ h => absurd h (by omega), rfl⟩
  case round =>
    obtain ⟨k, hk, rfl, hno, rfl⟩ := hrel
    by_cases hlt : k < l.length
    · obtain ⟨t, ht⟩ : ∃ t, l[k]? = some t := ⟨_, List.getElem?_eq_getElem hlt⟩
      obtain ⟨g, rfl, hg, e0, e1, e2, e3, e4⟩ := hat k t ht
      have hki : (k : Int) < (l.length : Nat) := by omega
      by_cases hi : t.id = i
      · have hp := pos_hit hs ht hi
        have hf : found l i = true := (found_iff hs i).2 ⟨t, by rw [hp]; exact ht, hi⟩
        have hpl : plc l i = (k : Nat) := by rw [plc, if_pos hf, hp]
        have HP := hide hpl
        have hib : (t.id == i) = true := by simp [hi]
        clear hpl hf hp hat hno ht hi hs
        go_wp2_with fail
        go_ret
        exact ⟨ret_int (by rw [HP.out]), rfl⟩
      · have hib : (t.id == i) = false := by simp [hi]
        have HN := hide hno
        have HT := hide ht
        clear hat hno ht hs
        go_wp2_with fail
        go_roundw
        case rel =>
          refine ⟨k + 1, by omega, by go_num, fun j s hj hjk => ?_, trivial⟩
          by_cases hjk' : j = k
          · subst hjk'; rw [HT.out] at hj; cases hj; exact hi
          · exact HN.out j s hj (by omega)
        case measure => simp [intOf]; omega
    · have hf : found l i = false := by
        rw [Bool.eq_false_iff]
        intro h
        obtain ⟨t, h1, h2⟩ := (found_iff hs i).1 h
        exact hno _ t h1 (by have := (List.getElem?_eq_some_iff.1 h1).1; omega) h2
      have hpl : plc l i = -1 := by rw [plc, hf]; rfl
      have HP := hide hpl
      have hki : ¬ (k : Int) < (l.length : Nat) := by omega
      clear hpl hf hat hno hs
      go_wp2_with fail
      go_ret
      exact ⟨ret_int (by rw [HP.out]), rfl⟩
end Go.Proofs.YtoheibfijpdmfaaGreatDoor
namespace Go.Proofs.YtoheibfijpdmfaaGreatDoor
open Go.RowKit
set_option linter.unusedVariables false
theorem refplace_is {r : Nat} {W H : Int} {tv bv ev : Value} {l : List Bd} {i : Int} {w : World} {c : Bool} (hd : Rd w r W H tv bv ev) (hl : Bds w bv l) (hs : Sorted l) (hlen : l.length ≤ 256) (h : found l i = c) :
    Calls Tryz.prog 58 #[ptr r, .int .i64 i] w fun e w' => e = .returned (.int .i64 (if c = true then (pos l i : Nat) else -1)) ∧ w' = w := by subst h; exact refplace_any r W H tv bv ev l i w hd hl hs hlen
set_option maxRecDepth 100000 in
set_option maxHeartbeats 4000000 in
theorem refmayw_any (r : Nat) (W H : Int) (tv bv ev : Value) (l : List Bd) (t : Bd) (w : World) (hd : Rd w r W H tv bv ev) (hl : Bds w bv l) (hs : Sorted l) (hlen : l.length ≤ 256) :
    Calls Tryz.prog 59 #[ptr r, t.v] w fun e w' => e = .returned (.int .i64 (refcode W H l t)) ∧ Below w.heap.size w w' := by
  obtain ⟨X, hX⟩ : ∃ X, w.alloc (.cells #[.int .i64 t.id, .int .i64 t.x, .int .i64 t.y, .int .i64 t.a, .int .i64 t.b] 50) = X := ⟨_, rfl⟩
  have B0 : Below w.heap.size w X := hX ▸ box1 _ _
  have T0 : Turns NoB w X := Turns.of_below B0
  have F0 : Five X w.heap.size t := hX ▸ heap_alloc_new w _
  have key : ∀ n : Lat X, Rd n.w r W H tv bv ev ∧ Bds n.w bv l ∧ Five n.w w.heap.size t := fun n => by
    have T : Turns NoB X n.w := Turns.of_below n.h
    exact ⟨(hd.kept T0 id).kept T id, (hl.kept T0 (fun _ _ => id)).kept T (fun _ _ => id), F0.kept T id⟩
  have HK := hide key
  have c0 : ∀ n : Lat X, n.w.cell? ⟨w.heap.size, 0, none⟩ = some (.int .i64 t.id) := fun n => (key n).2.2.c 0
  have c1 : ∀ n : Lat X, n.w.cell? ⟨w.heap.size, 1, none⟩ = some (.int .i64 t.x) := fun n => (key n).2.2.c 1
  have c2 : ∀ n : Lat X, n.w.cell? ⟨w.heap.size, 2, none⟩ = some (.int .i64 t.y) := fun n => (key n).2.2.c 2
  have c3 : ∀ n : Lat X, n.w.cell? ⟨w.heap.size, 3, none⟩ = some (.int .i64 t.a) := fun n => (key n).2.2.c 3
  have c4 : ∀ n : Lat X, n.w.cell? ⟨w.heap.size, 4, none⟩ = some (.int .i64 t.b) := fun n => (key n).2.2.c 4
  obtain ⟨a, cap, rfl, hcap, hmax, -⟩ := hl.form
  have c8 : ∀ n : Lat X, n.w.cell? ⟨r, 3, none⟩ = some (.slice a l.length cap) := fun n => (key n).1.c 3
  have hlI : (0 : Int) ≤ (l.length : Nat) ∧ ((l.length : Nat) : Int) ≤ 256 := by omega
  clear key hd hl T0 F0
  have hne := lat_some X
  cases h1 : mb W H t
  · have H1 := hide h1
    rw [show refcode W H l t = 1 by simp [refcode, h1]]
    clear h1
    go_enter Tryz.func59, Tryz.ntmps59
    go_wp2_with fail
    clear hX
    refine wp_region_lat (by kernel_rfl) (by kernel_rfl) ?_
    repeat (go_big_quiet_step (first
      | (go_at_call 20; exact calls_lat (refall_any _ _ _ _ _ _ _ (HK.out _).1))
      | (go_at_call 68; exact calls_lat (refmaybe_is H1.out))))
    refine wpQuiet_nil ?_
    rintro _ ⟨n, rfl⟩
    go_wp2_with fail
    go_ret
    exact ⟨rfl, B0.trans (n.h.mono B0.size)⟩
  · have H1 := hide h1
    cases h2 : found l t.id
    · have H2 := hide h2
      by_cases h3 : 256 ≤ l.length
      · rw [show refcode W H l t = 2 by simp [refcode, h1, h2, h3]]
        have h3' : (256 : Int) ≤ (l.length : Nat) := by omega
        have HS := hide hs
        clear h1 h2 hs
        go_enter Tryz.func59, Tryz.ntmps59
        go_wp2_with fail
        clear hX
        refine wp_region_lat (by kernel_rfl) (by kernel_rfl) ?_
        repeat (go_big_quiet_step (first
          | (go_at_call 20; exact calls_lat (refall_any _ _ _ _ _ _ _ (HK.out _).1))
          | (go_at_call 68; exact calls_lat (refmaybe_is H1.out))))
        refine wpQuiet_nil ?_
        rintro _ ⟨n, rfl⟩
        have z0 := c0 n
        have z8 := c8 n
        go_wp2_with (go_at_call 58; refine (refplace_is (HK.out n).1 (HK.out n).2.1 HS.out hlen H2.out).mono ?_; rintro e w' ⟨rfl, rfl⟩)
        go_ret
        exact ⟨rfl, B0.trans (n.h.mono B0.size)⟩
      · obtain ⟨c, hc⟩ : ∃ c, refcode W H l t = c := ⟨_, rfl⟩
        have HC := hide (show c = if busyB l t = true then 6 else 0 by rw [← hc]; simp [refcode, h1, h2, h3])
        rw [hc]
        clear hc
        have h3' : ¬ (256 : Int) ≤ (l.length : Nat) := by omega
        have HS := hide hs
        clear h1 h2 hs
        go_enter Tryz.func59, Tryz.ntmps59
        go_wp2_with fail
        clear hX
        refine wp_region_lat (by kernel_rfl) (by kernel_rfl) ?_
        repeat (go_big_quiet_step (first
          | (go_at_call 20; exact calls_lat (refall_any _ _ _ _ _ _ _ (HK.out _).1))
          | (go_at_call 68; exact calls_lat (refmaybe_is H1.out))))
        refine wpQuiet_nil ?_
        rintro _ ⟨n, rfl⟩
        have z0 := c0 n
        have z8 := c8 n
        go_wp2_with (go_at_call 58; refine (refplace_is (HK.out n).1 (HK.out n).2.1 HS.out hlen H2.out).mono ?_; rintro e w' ⟨rfl, rfl⟩)
        go_loopw [5] (fun p wr => ∃ k : Nat, k ≤ l.length ∧ p = .int .i64 k ∧ (∀ (j : Nat) s, l[j]? = some s → j < k → mtB s.x s.y s.a s.b t.x t.y t.a t.b = false) ∧ ∃ m : Lat X, wr = m.w) (fun p _ => l.length - (intOf p).toNat)
        case atStart => exact ⟨0, Nat.zero_le _, rfl, fun j t _ h => absurd h (by omega), n, rfl⟩
        case round =>
          obtain ⟨k, hk, rfl, hno, m, rfl⟩ := hrel
          by_cases hlt : k < l.length
          · obtain ⟨s, hsk⟩ : ∃ s, l[k]? = some s := ⟨_, List.getElem?_eq_getElem hlt⟩
            obtain ⟨g, hga⟩ : ∃ g, a = some ⟨g, 0, none⟩ := by
              obtain ⟨a', cap', he', _, _, hform⟩ := (HK.out m).2.1.form
              obtain ⟨g', hgg, _⟩ := hform k s hsk
              injection he' with h1 h2 h3
              exact ⟨g', h1.trans hgg⟩
            subst hga
            have hcell : ∀ n : Lat X, n.w.cell? ⟨g, k * 5 + 1, none⟩ = some (.int .i64 s.x) ∧ n.w.cell? ⟨g, k * 5 + 2, none⟩ = some (.int .i64 s.y) ∧ n.w.cell? ⟨g, k * 5 + 3, none⟩ = some (.int .i64 s.a) ∧ n.w.cell? ⟨g, k * 5 + 4, none⟩ = some (.int .i64 s.b) := fun n => by
              obtain ⟨a', cap', he', _, _, hform⟩ := (HK.out n).2.1.form
              obtain ⟨g', hgg, _, _, q1, q2, q3, q4⟩ := hform k s hsk
              rw [hgg] at he'
              injection he' with h1 h2 h3
              injection h1 with h1
              injection h1 with h1
              subst h1
              exact ⟨q1, q2, q3, q4⟩
            have e1 : ∀ n : Lat m.w, n.w.cell? ⟨g, k * 5 + 1, none⟩ = some (.int .i64 s.x) := fun n => (hcell ⟨n.w, bt m.h n.h⟩).1
            have e2 : ∀ n : Lat m.w, n.w.cell? ⟨g, k * 5 + 2, none⟩ = some (.int .i64 s.y) := fun n => (hcell ⟨n.w, bt m.h n.h⟩).2.1
            have e3 : ∀ n : Lat m.w, n.w.cell? ⟨g, k * 5 + 3, none⟩ = some (.int .i64 s.a) := fun n => (hcell ⟨n.w, bt m.h n.h⟩).2.2.1
            have e4 : ∀ n : Lat m.w, n.w.cell? ⟨g, k * 5 + 4, none⟩ = some (.int .i64 s.b) := fun n => (hcell ⟨n.w, bt m.h n.h⟩).2.2.2
            have d1 : ∀ n : Lat m.w, n.w.cell? ⟨w.heap.size, 1, none⟩ = some (.int .i64 t.x) := fun n => c1 ⟨n.w, bt m.h n.h⟩
            have d2 : ∀ n : Lat m.w, n.w.cell? ⟨w.heap.size, 2, none⟩ = some (.int .i64 t.y) := fun n => c2 ⟨n.w, bt m.h n.h⟩
            have d3 : ∀ n : Lat m.w, n.w.cell? ⟨w.heap.size, 3, none⟩ = some (.int .i64 t.a) := fun n => c3 ⟨n.w, bt m.h n.h⟩
            have d4 : ∀ n : Lat m.w, n.w.cell? ⟨w.heap.size, 4, none⟩ = some (.int .i64 t.b) := fun n => c4 ⟨n.w, bt m.h n.h⟩
            have d8 : ∀ n : Lat m.w, n.w.cell? ⟨r, 3, none⟩ = some (.slice (some ⟨g, 0, none⟩) l.length cap) := fun n => c8 ⟨n.w, bt m.h n.h⟩
            have z9 := c8 m
            have hki : (k : Int) < (l.length : Nat) := by omega
            have hne2 := lat_some m.w
            clear hcell z0 z8 hne c0 c1 c2 c3 c4 c8
            cases hb : mtB s.x s.y s.a s.b t.x t.y t.a t.b
            · have HB := hide hb
              have HN := hide hno
              have HT := hide hsk
              clear hb hno hsk
              go_wp2_with fail
              refine wp_region_lat (by kernel_rfl) (by kernel_rfl) ?_
              repeat (go_big_quiet_step (first | (go_at_call 69; exact calls_lat (share_is HB.out))))
              refine wpQuiet_nil ?_
              rintro _ ⟨n2, rfl⟩
              go_wp2_with fail
              go_roundw
              case rel =>
                refine ⟨k + 1, by omega, by go_num, fun j s' hj hjk => ?_, ⟨n2.w, bt m.h n2.h⟩, rfl⟩
                by_cases hjk' : j = k
                · subst hjk'; rw [HT.out] at hj; cases hj; exact HB.out
                · exact HN.out j s' hj (by omega)
              case measure => simp [intOf]; omega
            · have hbusy := busy_yes hsk hb
              have HB := hide hb
              have HU := hide hbusy
              clear hb hno hbusy hsk
              go_wp2_with fail
              refine wp_region_lat (by kernel_rfl) (by kernel_rfl) ?_
              repeat (go_big_quiet_step (first | (go_at_call 69; exact calls_lat (share_is HB.out))))
              refine wpQuiet_nil ?_
              rintro _ ⟨n2, rfl⟩
              go_wp2_with fail
              go_ret
              exact ⟨ret_int (by rw [HC.out, if_pos HU.out]), bt B0 (bt m.h n2.h)⟩
          · obtain rfl : k = l.length := by omega
            have HU := hide (busy_no hno)
            have z9 := c8 m
            have hki : ¬ ((l.length : Nat) : Int) < (l.length : Nat) := by omega
            clear hno z0 z8 hne c0 c1 c2 c3 c4 c8
            go_wp2_with fail
            go_ret
            exact ⟨ret_int (by rw [HC.out, HU.out]; rfl), bt B0 m.h⟩
    · have H2 := hide h2
      rw [show refcode W H l t = 8 by simp [refcode, h1, h2]]
      have HS := hide hs
      clear h1 h2 hs
      go_enter Tryz.func59, Tryz.ntmps59
      go_wp2_with fail
      clear hX
      refine wp_region_lat (by kernel_rfl) (by kernel_rfl) ?_
      repeat (go_big_quiet_step (first
        | (go_at_call 20; exact calls_lat (refall_any _ _ _ _ _ _ _ (HK.out _).1))
        | (go_at_call 68; exact calls_lat (refmaybe_is H1.out))))
      refine wpQuiet_nil ?_
      rintro _ ⟨n, rfl⟩
      have z0 := c0 n
      go_wp2_with (go_at_call 58; refine (refplace_is (HK.out n).1 (HK.out n).2.1 HS.out hlen H2.out).mono ?_; rintro e w' ⟨rfl, rfl⟩)
      go_ret
      exact ⟨rfl, B0.trans (n.h.mono B0.size)⟩
end Go.Proofs.YtoheibfijpdmfaaGreatDoor
namespace Go.Proofs.YtoheibfijpdmfaaGreatDoor
open Go.RowKit
set_option linter.unusedVariables false
theorem bds_len : ∀ (l : List Bd), (l.flatMap Bd.cs).length = l.length * 5
  | [] => rfl
  | t :: r => by rw [List.flatMap_cons, List.length_append, bds_len r]; simp [Bd.cs]; omega
theorem rcs_len : ∀ (l : List Rc), (l.flatMap Rc.cs).length = l.length * 4
  | [] => rfl
  | t :: r => by rw [List.flatMap_cons, List.length_append, rcs_len r]; simp [Rc.cs]; omega
theorem one_bds {l : List Bd} : ∀ u ∈ l.flatMap Bd.cs, u.oneCell' = true := by
  intro u hu
  obtain ⟨t, _, h⟩ := List.mem_flatMap.1 hu
  simp [Bd.cs] at h
  rcases h with rfl | rfl | rfl | rfl | rfl <;> rfl
theorem one_rcs {l : List Rc} : ∀ u ∈ l.flatMap Rc.cs, u.oneCell' = true := by
  intro u hu
  obtain ⟨t, _, h⟩ := List.mem_flatMap.1 hu
  exact one_rc u h
theorem eql23 (a : Addr) (n c : Nat) (w : World) : (binOp .eql 23 (.slice (some a) n c) (.slice none 0 0)).run Tryz.prog w = .ok (.bool false) w := by kernel_rfl
theorem eql23' (w : World) : (binOp .eql 23 (.slice none 0 0) (.slice none 0 0)).run Tryz.prog w = .ok (.bool true) w := by kernel_rfl
theorem eql48 (a : Addr) (n c : Nat) (w : World) : (binOp .eql 90 (.slice (some a) n c) (.slice none 0 0)).run Tryz.prog w = .ok (.bool false) w := by kernel_rfl
theorem eql48' (w : World) : (binOp .eql 90 (.slice none 0 0) (.slice none 0 0)).run Tryz.prog w = .ok (.bool true) w := by kernel_rfl
set_option maxHeartbeats 1000000 in
theorem clone48 (l : List Rc) (v : Value) (w : World) (hv : Rcs w v l) (hl : l.length * 32 ≤ 140737488355328) :
    Calls Tryz.prog 88 #[v] w (Cloned w 48 4 l.length (l.flatMap Rc.cs)) := by
  obtain ⟨fi, hf, hz, h1, h2⟩ := info_parts info43
  have q1 := eql48
  have q2 := eql48'
  rcases hv.2 with ⟨rfl, h0⟩ | ⟨g, cap, cur, rfl, hb, hg, hn, hm, hs, ht⟩
  · have hE : Cloned w 48 4 l.length (l.flatMap Rc.cs) (.returned (.slice none 0 0)) w := by
      obtain rfl := List.eq_nil_of_length_eq_zero h0
      exact ⟨none, 0, rfl, hv, Below.refl _ _, fun b h => by simp [Value.ownBlock] at h⟩
    have HE := hide hE
    clear hE hv h0
    go_enter Tryz.func88, Tryz.ntmps88
    go_wp2_with fail
    go_ret
    exact HE.out
  · have hcells := fun j u h => (hv.alloc (.cells #[] 48)).cells (g := g) rfl j u h
    have hm1 : 0 + l.length ≤ maxLen := by unfold maxLen; omega
    have hm2 : (0 + l.length) * 32 ≤ 140737488355328 := by omega
    have hbase : (w.alloc (.cells #[] 48)).ownsRow 0 48 4 (.slice (some ⟨w.heap.size, 0, none⟩) 0 0) 0 [] := World.ownsRow_made w #[] 0 (Nat.zero_le _) (by decide) rfl
    have HB := hide hbase
    have HC := hide hcells
    obtain ⟨n, hnn⟩ : ∃ n, n = l.length := ⟨_, rfl⟩
    have hln : (l.flatMap Rc.cs).length = l.length * 4 := rcs_len l
    clear hv hbase hcells hg hs ht hb
    go_enter Tryz.func88, Tryz.ntmps88
    go_wp2_with (at_builtin; refine wpList_append_own_at _ rfl _ _ 90 rfl 0 48 fi z43 4 32 Tryz.underlying90 hf hz h1 h2 rfl (by decide) (.slice (some ⟨w.heap.size, 0, none⟩) 0 0) 0 [] rfl HB.out ⟨g, 0, none⟩ l.length cap (l.flatMap Rc.cs) rfl hln HC.out one_rcs hm1 hm2 (Nat.zero_le _) ?_; intro v' w1 hown' hgrow hnil hloc; have HE := hide (cloned_end hown' hgrow hloc); clear hown' hgrow hnil hloc)
    go_ret
    exact HE.out
end Go.Proofs.YtoheibfijpdmfaaGreatDoor
set_option linter.unusedSimpArgs false
namespace Go.Proofs.YtoheibfijpdmfaaGreatDoor
open Go.RowKit
set_option linter.unusedVariables false
set_option maxHeartbeats 1000000 in
theorem refraze_no (r : Nat) (W H : Int) (tv bv ev : Value) (l : List Bd) (i : Int) (w : World) (hd : Rd w r W H tv bv ev) (hl : Bds w bv l) (hs : Sorted l) (hlen : l.length ≤ 256) (hf : found l i = false) :
    Calls Tryz.prog 24 #[ptr r, .int .i64 i] w fun e w' => e = .returned (.tuple #[rct 0 0 0 0, .int .i64 4]) ∧ Below w.heap.size w w' := by
  have B0 : Below w.heap.size w (Z4 w) := box1 _ _
  have hd0 : Rd (Z4 w) r W H tv bv ev := hd.kept (Turns.of_below (S := NoB) B0) id
  have hl0 : Bds (Z4 w) bv l := hl.kept (Turns.of_below (S := NoB) B0) (fun _ _ => id)
  have HI := hide (refplace_is hd0 hl0 hs hlen hf)
  obtain ⟨⟨c0, c1, c2, c3⟩, ⟨g0, g1, g2, g3⟩, zz⟩ : Four (Z4 w) w.heap.size 0 0 0 0 := cells4 (Below.refl _ _)
  clear hd0 hd hl hl0 hs
  go_enter Tryz.func24, Tryz.ntmps24
  go_wp2_with (go_at_call 58; refine HI.out.mono ?_; rintro e w1 ⟨rfl, rfl⟩)
  refine bodyPost_ret (v := .tuple #[rct 0 0 0 0, .int .i64 4]) (by simp [results, Tryz.results24, go_sem, c0, c1, c2, c3]) rfl ⟨rfl, ?_⟩
  exact box1 _ _
theorem row_any {w : World} {e : TypeId} {k n : Nat} {v : Value} {xs : List Value} (h : w.ownsRow 0 e k v n xs) : ∃ a cap, v = .slice a n cap := by
  rcases h.2 with ⟨rfl, rfl⟩ | ⟨g, cap, cur, rfl, r⟩
  · exact ⟨none, 0, rfl⟩
  · exact ⟨_, _, rfl⟩
theorem new2 {v2 : Value} {b n m : Nat} (h : v2.ownBlock = (Value.slice none 0 0).ownBlock ∨ v2.ownBlock = some n) (hn : m ≤ n) (hb : v2.ownBlock = some b) : m ≤ b := by
  rcases h with h | h
  · rw [h] at hb; cases hb
  · rw [h] at hb; cases hb; exact hn
/-- What the document's Raze leaves. -/
def RefRazed (w : World) (r : Nat) (W H : Int) (tv ev : Value) (l : List Bd) (es : List Rc) (k : Nat) (t : Bd) (w' : World) : Prop :=
  ∃ bv' ev', Rd w' r W H tv bv' ev' ∧ Bds w' bv' (del l k) ∧ Rcs w' ev' (es ++ [t.foot]) ∧ Turns (fun j => j = r ∨ ev.ownBlock = some j) w w' ∧ (∀ b, bv'.ownBlock = some b → w.heap.size ≤ b) ∧ (∀ b, ev'.ownBlock = some b → ev.ownBlock = some b ∨ w.heap.size ≤ b)
end Go.Proofs.YtoheibfijpdmfaaGreatDoor
namespace Go.Proofs.YtoheibfijpdmfaaGreatDoor
open Go.RowKit
set_option linter.unusedVariables false
/-- The part of a row of buildings from one on. -/
theorem drop_cells {w : World} {g n cap : Nat} {l : List Bd} (h : Bds w (.slice (some ⟨g, 0, none⟩) n cap) l) (m : Nat) : ∀ j u, ((l.drop m).flatMap Bd.cs)[j]? = some u → w.cell? ((⟨g, m * 5, none⟩ : Addr).add j) = some u := fun j u hu => by
  rw [cs_drop, List.getElem?_drop] at hu
  have := h.cells (g := g) rfl (m * 5 + j) u hu
  simpa [Addr.add_lit] using this
theorem take_cells {w : World} {g n cap : Nat} {l : List Bd} (h : Bds w (.slice (some ⟨g, 0, none⟩) n cap) l) (m : Nat) : ∀ j u, ((l.take m).flatMap Bd.cs)[j]? = some u → w.cell? ((⟨g, 0, none⟩ : Addr).add j) = some u := fun j u hu => by
  rw [cs_take] at hu
  have := h.cells (g := g) rfl j u (by
    rw [List.getElem?_take] at hu
    split at hu
    · exact hu
    · cases hu)
  simpa [Addr.add_lit] using this
theorem below_of_grown {W W' : World} (h : W.grownBy W' none) : Below W.heap.size W W' := ⟨h.os, h.tape, h.output, h.size, fun k hk => h.block k hk (by simp)⟩
theorem Four.turned {S : Nat → Prop} {W W' : World} {k : Nat} {x y a b : Int} (h : Four W k x y a b) (ht : Turns S W W') (hs : ¬ S k) : Four W' k x y a b := by
  have hb := ht.block k h.2.2 hs
  have hc := fun o => World.cell?_of_block (a := ⟨k, o, none⟩) hb
  have hf := fun o => World.frozen?_of_block (a := ⟨k, o, none⟩) hb
  exact ⟨⟨(hc 0).trans h.1.1, (hc 1).trans h.1.2.1, (hc 2).trans h.1.2.2.1, (hc 3).trans h.1.2.2.2⟩, ⟨(hf 0).trans h.2.1.1, (hf 1).trans h.2.1.2.1, (hf 2).trans h.2.1.2.2.1, (hf 3).trans h.2.1.2.2.2⟩, Nat.lt_of_lt_of_le h.2.2 ht.size⟩
theorem turns_set4 (w : World) (n : Nat) (a b c d : Value) : Turns (fun j => j = n) w ((((w.setCell ⟨n, 0, none⟩ a).setCell ⟨n, 1, none⟩ b).setCell ⟨n, 2, none⟩ c).setCell ⟨n, 3, none⟩ d) :=
  (((Turns.set (S := fun j => j = n) w (p := ⟨n, 0, none⟩) rfl a).trans ((Turns.set (S := fun j => j = n) _ (p := ⟨n, 1, none⟩) rfl b).mono (fun _ _ h => .inl h))).trans ((Turns.set (S := fun j => j = n) _ (p := ⟨n, 2, none⟩) rfl c).mono (fun _ _ h => .inl h))).trans ((Turns.set (S := fun j => j = n) _ (p := ⟨n, 3, none⟩) rfl d).mono (fun _ _ h => .inl h))
/-- What two appends leave. -/
theorem two_grown {X w2 w3 : World} {v1 : Value} (h1 : X.grownBy w2 (Value.slice none 0 0).ownBlock) (hl : v1.ownBlock = (Value.slice none 0 0).ownBlock ∨ v1.ownBlock = some X.heap.size) (h2 : w2.grownBy w3 v1.ownBlock) : Below X.heap.size X w3 := by
  have B2 := below_of_grown h1
  refine ⟨h2.os.trans B2.os, h2.tape.trans B2.tape, h2.output.trans B2.output, Nat.le_trans B2.size h2.size, fun k hk => (h2.block k (Nat.lt_of_lt_of_le hk B2.size) (fun e => ?_)).trans (B2.block k hk)⟩
  rcases hl with h | h
  · rw [h] at e; cases e
  · rw [h] at e; cases e; omega
/-- An edit more, behind a World of the document. -/
theorem edits_end {w w1 : World} {r : Nat} {W H : Int} {tv bv ev : Value} {es : List Rc} {f : Rc} {o : Obj} {g cap : Nat} (hd : Rd w r W H tv bv ev) (he : Rcs w ev es) (hg : (w.alloc o).drew.grownBy w1 ev.ownBlock)
    (hown : w1.ownsRow 0 48 4 (.slice (some ⟨g, 0, none⟩) (es.length + 1) cap) (es.length + 1) (es.flatMap Rc.cs ++ f.cs)) (hl : (Value.slice (some ⟨g, 0, none⟩) (es.length + 1) cap).ownBlock = ev.ownBlock ∨ (Value.slice (some ⟨g, 0, none⟩) (es.length + 1) cap).ownBlock = some (w.alloc o).drew.heap.size) :
    Rd w1 r W H tv bv ev ∧ Rd (w1.setCell ⟨r, 4, none⟩ (.slice (some ⟨g, 0, none⟩) (es.length + 1) cap)) r W H tv bv (.slice (some ⟨g, 0, none⟩) (es.length + 1) cap) ∧ Rcs (w1.setCell ⟨r, 4, none⟩ (.slice (some ⟨g, 0, none⟩) (es.length + 1) cap)) (.slice (some ⟨g, 0, none⟩) (es.length + 1) cap) (es ++ [f]) ∧
    Turns (fun j => j = r ∨ ev.ownBlock = some j) w (w1.setCell ⟨r, 4, none⟩ (.slice (some ⟨g, 0, none⟩) (es.length + 1) cap)) ∧ (∀ b, some g = some b → ev.ownBlock = some b ∨ w.heap.size ≤ b) := by
  have T1 : Turns (fun j => ev.ownBlock = some j) w w1 := (Turns.of_below (box1 w o)).trans ((Turns.of_grown (w := (w.alloc o).drew) hg (fun k e => Or.inl e)).undrew)
  have hne := hd.ne_row he (by decide)
  have hd1 := hd.kept T1 hne
  have TS : Turns (fun j => j = r) w1 (w1.setCell ⟨r, 4, none⟩ (.slice (some ⟨g, 0, none⟩) (es.length + 1) cap)) := Turns.set (S := fun j => j = r) w1 (p := ⟨r, 4, none⟩) rfl _
  have hr1 : Rcs w1 (.slice (some ⟨g, 0, none⟩) (es.length + 1) cap) (es ++ [f]) := by simpa [Rcs] using hown
  refine ⟨hd1, hd1.set4 _, hr1.kept TS (fun k e h => ?_), (T1.mono (fun k _ h => .inr h)).trans (TS.mono (fun k _ h => .inl (.inl h))), fun b e => ?_⟩
  · subst h; exact hd1.ne_row hr1 (by decide) e
  · cases e
    rcases hl with h | h
    · exact .inl (by rw [← h]; rfl)
    · right
      simp [Value.ownBlock] at h
      omega
set_option maxRecDepth 100000 in
set_option maxHeartbeats 4000000 in
theorem refraze_yes (r : Nat) (W H : Int) (tv bv ev : Value) (l : List Bd) (es : List Rc) (i : Int) (t : Bd) (w : World) (hd : Rd w r W H tv bv ev) (hl : Bds w bv l) (he : Rcs w ev es) (hs : Sorted l) (hlen : l.length ≤ 256)
    (hes : (es.length + 1) * 32 ≤ 140737488355328) (hf : found l i = true) (ht : l[pos l i]? = some t) :
    Calls Tryz.prog 24 #[ptr r, .int .i64 i] w fun e w' => e = .returned (.tuple #[rct t.x t.y t.a t.b, .int .i64 0]) ∧ RefRazed w r W H tv ev l es (pos l i) t w' := by
  have B0 : Below w.heap.size w (Z4 w) := box1 _ _
  have hd0 : Rd (Z4 w) r W H tv bv ev := hd.kept (Turns.of_below (S := NoB) B0) id
  have hl0 : Bds (Z4 w) bv l := hl.kept (Turns.of_below (S := NoB) B0) (fun _ _ => id)
  have HI := hide (refplace_is hd0 hl0 hs hlen hf)
  obtain ⟨k, hk⟩ : ∃ k, pos l i = k := ⟨_, rfl⟩
  simp only [if_true] at HI
  rw [hk] at ht HI ⊢
  have hkl : k < l.length := (List.getElem?_eq_some_iff.1 ht).1
  have hki : (k : Int) < (l.length : Nat) := by omega
  have hkw : (0 : Int) ≤ (k : Int) ∧ (k : Int) ≤ 256 := by omega
  obtain ⟨a, cap, rfl, h1, h2, hat⟩ := hl0.form
  obtain ⟨g, rfl, hg, e0, e1, e2, e3, e4⟩ := hat k t ht
  have hgw := (hl.lt g rfl).2
  have hrw := hd.lt
  have c8 : (Z4 w).cell? ⟨r, 3, none⟩ = some (.slice (some ⟨g, 0, none⟩) l.length cap) := hd0.c 3
  obtain ⟨fi, hfi, hz, h5, h40⟩ := info_parts info55
  have hkc : (k : Int) ≤ (cap : Nat) := by omega
  have hcm : (cap : Int) ≤ 9223372036854775807 := by unfold maxLen at h2; omega
  have hTk : ((l.take k).flatMap Bd.cs).length = k * 5 := by rw [cs_len, List.length_take]; omega
  have hm1 : 0 + k ≤ maxLen := by unfold maxLen; omega
  have hm2 : (0 + k) * 40 ≤ 140737488355328 := by omega
  have HT : ∀ wx, Below w.heap.size w wx → Hid (∀ j u, ((l.take k).flatMap Bd.cs)[j]? = some u → wx.cell? ((⟨g, 0, none⟩ : Addr).add j) = some u) := fun wx hx => take_cells (hl.kept (Turns.of_below (S := NoB) hx) (fun _ _ => id)) k
  have HD := hide hd
  have HL := hide hl
  have HS := hide he
  clear hd0 hl0 hs ht hat hd hl he
  go_enter Tryz.func24, Tryz.ntmps24
  obtain ⟨ad, hadd⟩ : ∃ ad : Addr, ad = (if cap = k + 1 then ⟨g, 0, none⟩ else ⟨g, (k + 1) * 5, none⟩) := ⟨_, rfl⟩
  have hDk : ((l.drop (k + 1)).flatMap Bd.cs).length = (l.length - (k + 1)) * 5 := by rw [cs_len, List.length_drop]
  have hm3 : k + (l.length - (k + 1)) ≤ maxLen := by unfold maxLen; omega
  have hm4 : (k + (l.length - (k + 1))) * 40 ≤ 140737488355328 := by omega
  have HT2 : ∀ wx, Below w.heap.size w wx → Hid (∀ j u, ((l.drop (k + 1)).flatMap Bd.cs)[j]? = some u → wx.cell? (ad.add j) = some u) := fun wx hx j u hu => by
    rw [hadd]
    split
    · rename_i hc
      rw [List.drop_eq_nil_of_le (by omega)] at hu
      simp at hu
    · exact drop_cells (HL.out.kept (Turns.of_below (S := NoB) hx) (fun _ _ => id)) (k + 1) j u hu
  have hlk : (k : Int) + 1 ≤ (cap : Nat) ∧ (k : Int) + 1 ≤ (l.length : Nat) := by omega
  by_cases hc : cap = k + 1
  · rw [if_pos hc] at hadd
    subst hadd
    have HLK := hide (show l.length = k + 1 by omega)
    have hc' : cap - (k + 1) = 0 := by omega
    have hl' : l.length - (k + 1) = 0 := by omega
    clear hc
    have hn0 : ∀ (wx : World) (j : Nat) (u : Value), ([] : List Value)[j]? = some u → wx.cell? ((⟨g, 0, none⟩ : Addr).add j) = some u := fun wx j u h => by simp at h
    have hm5 : k + 0 ≤ maxLen := by unfold maxLen; omega
    have hm6 : (k + 0) * 40 ≤ 140737488355328 := by omega
    go_wp2_with (first | (go_at_call 58; refine HI.out.mono ?_; rintro e w1 ⟨rfl, rfl⟩) | (at_builtin; refine wpList_append_own_at _ rfl _ _ 23 rfl 0 50 fi z55 5 40 Tryz.underlying23 hfi hz h5 h40 rfl (by decide) (.slice none 0 0) 0 [] rfl (World.ownsRow_nil _ _ _ _) ⟨g, 0, none⟩ k cap ((l.take k).flatMap Bd.cs) rfl hTk (HT _ (box2 _ _ _)).out one_all hm1 hm2 (Nat.zero_le _) ?_; intro v1 w2 hown1 hgrow1 hnil1 hloc1; rw [Nat.zero_add, List.nil_append] at hown1; obtain ⟨a1, cap1, rfl⟩ := row_any hown1; have B2 := bt (box2 _ _ _) (below_of_grown hgrow1); have c8b : w2.cell? ⟨r, 3, none⟩ = some (.slice (some ⟨g, 0, none⟩) l.length cap) := (B2.cell (p := ⟨r, 3, none⟩) hrw).trans (HD.out.c 3); have HB2 := hide B2; have HO1 := hide hown1; have HG1 := hide hgrow1; have HL1 := hide hloc1; clear B2 hown1 hgrow1 hnil1 hloc1) | (at_builtin; refine wpList_append_own_at _ rfl _ _ 23 rfl 0 50 fi z55 5 40 Tryz.underlying23 hfi hz h5 h40 rfl (by decide) (.slice a1 k cap1) k _ rfl HO1.out ⟨g, 0, none⟩ 0 0 [] rfl rfl (hn0 _) (fun u h => by simp at h) hm5 hm6 (Nat.zero_le _) ?_; intro v2 w3 hown2 hgrow2 hnil2 hloc2; rw [Nat.add_zero, List.append_nil] at hown2; obtain ⟨a2, cap2, rfl⟩ := row_any hown2; have B3 := two_grown HG1.out HL1.out hgrow2; have BW := bt (box2 w _ _) B3; have c8c : w3.cell? ⟨r, 3, none⟩ = some (.slice (some ⟨g, 0, none⟩) l.length cap) := (BW.cell (p := ⟨r, 3, none⟩) hrw).trans (HD.out.c 3); have f8c := (BW.frozen (p := ⟨r, 3, none⟩) hrw).trans (HD.out.f 3); have HB3 := hide B3; have HB4 := hide BW; have HO2 := hide hown2; have HL2 := hide hloc2; clear B3 BW hown2 hgrow2 hnil2 hloc2))
    have F3 : Four w3 (w.heap.size + 1) t.x t.y t.a t.b := (show Four ((Z4 w).alloc (.cells #[.int .i64 t.x, .int .i64 t.y, .int .i64 t.a, .int .i64 t.b] 48)) (w.heap.size + 1) t.x t.y t.a t.b by simp [Four, go_sem]).kept HB3.out
    have G3 : Four w3 w.heap.size 0 0 0 0 := (show Four ((Z4 w).alloc (.cells #[.int .i64 t.x, .int .i64 t.y, .int .i64 t.a, .int .i64 t.b] 48)) w.heap.size 0 0 0 0 by simp [Four, go_sem]).kept HB3.out
    have hd4 := (HD.out.kept (Turns.of_below (S := NoB) HB4.out) id).set3 (.slice a2 (k) cap2)
    have TS4 : Turns (fun j => j = r) w3 (w3.setCell ⟨r, 3, none⟩ (.slice a2 (k) cap2)) := Turns.set (S := fun j => j = r) w3 (p := ⟨r, 3, none⟩) rfl _
    have hd3 := HD.out.kept (Turns.of_below (S := NoB) HB4.out) id
    have hl3 : Bds w3 (.slice a2 (k) cap2) (del l k) := by
      have := HO2.out
      show w3.ownsRow 0 50 5 _ (del l k).length ((del l k).flatMap Bd.cs); rw [show (del l k).length = k by have := HLK.out; simp [del]; omega, show (del l k).flatMap Bd.cs = (l.take k).flatMap Bd.cs by rw [del, List.drop_eq_nil_of_le (by have := HLK.out; omega), List.append_nil]]; exact this
    have hl4 := hl3.kept TS4 (fun b e h => by subst h; exact hd3.ne_row hl3 (by decide) e)
    have he3 := HS.out.kept (Turns.of_below (S := NoB) HB4.out) (fun _ _ => id)
    have he4 := he3.kept TS4 (fun b e h => by subst h; exact hd3.ne_row he3 (by decide) e)
    have F4 := F3.turned TS4 (by omega)
    have G4 := G3.turned TS4 (by omega)
    have T4 : Turns (fun j => j = r) w _ := (Turns.of_below (S := fun j => j = r) HB4.out).trans (TS4.mono (fun j _ h => .inl h))
    have hz4 := T4.size
    obtain ⟨w4, hw4⟩ : ∃ w4, w3.setCell ⟨r, 3, none⟩ (.slice a2 (k) cap2) = w4 := ⟨_, rfl⟩
    rw [hw4] at hd4 hl4 he4 F4 G4 T4 hz4 ⊢
    have hnew : ∀ b, (Value.slice a2 (k) cap2).ownBlock = some b → w.heap.size + 2 ≤ b := fun b e => by
      have hzb : w.heap.size + 2 ≤ w2.heap.size := by have := HG1.out.size; simpa using this
      rcases HL2.out with h | h
      · rw [h] at e; exact new2 HL1.out (by simp) e
      · rw [h] at e; cases e; exact hzb
    have HN := hide hnew
    have Hl4 := hide hl4
    have HT4 := hide T4
    clear hw4 hd3 hl3 he3 F3 G3 TS4 c8b c8c f8c c8 e0 e1 e2 e3 e4 hnew hl4 T4
    obtain ⟨fj, hfj, hzj, h4, h32⟩ := info_parts info43
    have hmj : es.length + 1 ≤ maxLen := by unfold maxLen; omega
    have hevn : ∀ j, j = w.heap.size ∨ j = w.heap.size + 1 → ¬ (ev.ownBlock = some j) := fun j hj e => by have := (HS.out.lt j e).2; omega
    have hS0 : (w4.cell? ⟨w.heap.size + 1, 0, none⟩ = some (.int .i64 t.x) ∧ w4.cell? ⟨w.heap.size + 1, 1, none⟩ = some (.int .i64 t.y) ∧ w4.cell? ⟨w.heap.size + 1, 2, none⟩ = some (.int .i64 t.a) ∧ w4.cell? ⟨w.heap.size + 1, 3, none⟩ = some (.int .i64 t.b)) := F4.1
    have hS1 : ∀ o, ((w4.alloc o).cell? ⟨w.heap.size + 1, 0, none⟩ = some (.int .i64 t.x) ∧ (w4.alloc o).cell? ⟨w.heap.size + 1, 1, none⟩ = some (.int .i64 t.y) ∧ (w4.alloc o).cell? ⟨w.heap.size + 1, 2, none⟩ = some (.int .i64 t.a) ∧ (w4.alloc o).cell? ⟨w.heap.size + 1, 3, none⟩ = some (.int .i64 t.b)) := fun o => (F4.kept (box1 w4 o)).1
    have hTX : ∀ {wx : World} {o : Obj}, (w4.alloc o).drew.grownBy wx ev.ownBlock → Turns (fun k => ev.ownBlock = some k) w4 wx := fun {wx o} hg => (Turns.of_below (box1 w4 o)).trans ((Turns.of_grown (w := (w4.alloc o).drew) hg (fun k e => Or.inl e)).undrew)
    have hS2 : ∀ {wx : World} {o : Obj}, (w4.alloc o).drew.grownBy wx ev.ownBlock → (wx.cell? ⟨w.heap.size + 1, 0, none⟩ = some (.int .i64 t.x) ∧ wx.cell? ⟨w.heap.size + 1, 1, none⟩ = some (.int .i64 t.y) ∧ wx.cell? ⟨w.heap.size + 1, 2, none⟩ = some (.int .i64 t.a) ∧ wx.cell? ⟨w.heap.size + 1, 3, none⟩ = some (.int .i64 t.b)) := fun {wx o} hg => (F4.turned (hTX hg) (hevn _ (.inr rfl))).1
    have hS3 : ∀ {wx : World} {o : Obj} {v : Value}, (w4.alloc o).drew.grownBy wx ev.ownBlock → ((wx.setCell ⟨r, 4, none⟩ v).cell? ⟨w.heap.size + 1, 0, none⟩ = some (.int .i64 t.x) ∧ (wx.setCell ⟨r, 4, none⟩ v).cell? ⟨w.heap.size + 1, 1, none⟩ = some (.int .i64 t.y) ∧ (wx.setCell ⟨r, 4, none⟩ v).cell? ⟨w.heap.size + 1, 2, none⟩ = some (.int .i64 t.a) ∧ (wx.setCell ⟨r, 4, none⟩ v).cell? ⟨w.heap.size + 1, 3, none⟩ = some (.int .i64 t.b)) := fun {wx o v} hg => ((F4.turned (hTX hg) (hevn _ (.inr rfl))).turned (Turns.set (S := fun k => k = r) wx (p := ⟨r, 4, none⟩) rfl v) (by omega)).1
    have c4 : w4.cell? ⟨r, 4, none⟩ = some ev := hd4.c 4
    have c4' : ∀ o, (w4.alloc o).cell? ⟨r, 4, none⟩ = some ev := fun o => (hd4.kept (Turns.of_below (S := NoB) (box1 w4 o)) id).c 4
    have HE4 := hide he4
    have HD4 := hide hd4
    clear hd4 he4
    refine Code.wp_mono (Q := Only (fun a' w' => ∃ v5 g5 cap5 w5, v5 = .slice (some ⟨g5, 0, none⟩) (es.length + 1) cap5 ∧ w' = w5.setCell ⟨r, 4, none⟩ v5 ∧ a' = { tmps := #[ptr r, .int .i64 i, undef, undef, ptr w.heap.size, .int .i64 0, .int .i64 k, ptr (w.heap.size + 1), .slice a1 k cap1, ptr r, .int .i64 i, .int .i64 k, .int .i64 k, .bool (decide ((k : Int) < 0)), undef, ptr r, ptr r, .pointer (some ⟨r, 3, none⟩), .slice (some ⟨g, 0, none⟩) l.length cap, .int .i64 k, .pointer (some ⟨g, k * 5, none⟩), .pointer (some ⟨g, k * 5 + 1, none⟩), rct t.x t.y t.a t.b, .slice none 0 0, ptr r, ptr r, .pointer (some ⟨r, 3, none⟩), .slice (some ⟨g, 0, none⟩) l.length cap, .int .i64 k, .slice (some ⟨g, 0, none⟩) k cap, .slice a1 k cap1, ptr r, .slice a1 k cap1, ptr r, ptr r, .pointer (some ⟨r, 3, none⟩), .slice (some ⟨g, 0, none⟩) l.length cap, .int .i64 k, .int .i64 (k + 1), .slice (some ⟨g, 0, none⟩) 0 0, .slice a2 (k) cap2, ptr r, .pointer (some ⟨r, 3, none⟩), ptr r, ptr r, ptr r, .pointer (some ⟨r, 4, none⟩), ev, rct t.x t.y t.a t.b, .slice (some ⟨w4.heap.size, 0, none⟩) 1 1, v5, ptr r, .pointer (some ⟨r, 4, none⟩), undef], defers := [] } ∧ (w4.alloc (.cells #[.int .i64 t.x, .int .i64 t.y, .int .i64 t.a, .int .i64 t.b] 48)).drew.grownBy w5 ev.ownBlock ∧ w5.ownsRow 0 48 4 v5 (es.length + 1) (es.flatMap Rc.cs ++ t.foot.cs) ∧ (v5.ownBlock = ev.ownBlock ∨ v5.ownBlock = some (w4.alloc (.cells #[.int .i64 t.x, .int .i64 t.y, .int .i64 t.a, .int .i64 t.b] 48)).drew.heap.size))) ?rest ?_
    case rest =>
      rintro (_ | _ | _ | _ | _) a' w' hO
      all_goals first | exact hO.elim | skip
      obtain ⟨v5, g5, cap5, w5, rfl, rfl, rfl, hg5, hown5, hloc5⟩ := hO
      obtain ⟨hd5, hd6, he6, T6, hn6⟩ := edits_end (f := t.foot) HD4.out HE4.out hg5 hown5 hloc5
      have F6 := (F4.turned T6 (fun h => h.elim (fun h => by omega) (hevn _ (.inr rfl))))
      have G6 := (G4.turned T6 (fun h => h.elim (fun h => by omega) (hevn _ (.inl rfl))))
      have hl6 := Hl4.out.kept T6 (fun b e h => h.elim (fun h => by subst h; exact HD4.out.ne_row Hl4.out (by decide) e) (fun h => rows_ne Hl4.out HE4.out (by decide) e h))
      obtain ⟨w6, hw6⟩ : ∃ w6, w5.setCell ⟨r, 4, none⟩ (.slice (some ⟨g5, 0, none⟩) (es.length + 1) cap5) = w6 := ⟨_, rfl⟩
      rw [hw6] at hd6 he6 T6 F6 G6 hl6 ⊢
      clear hw6 hg5 hown5 hloc5 hd5 hS0 hS1 hS2 hS3 c4 c4' hTX
      obtain ⟨⟨x0, x1, x2, x3⟩, -, xz⟩ := id F6
      obtain ⟨⟨y0, y1, y2, y3⟩, ⟨y4, y5, y6, y7⟩, yz⟩ := id G6
      have HEnd : RefRazed w r W H tv ev l es k t ((((w6.setCell ⟨w.heap.size, 0, none⟩ (.int .i64 t.x)).setCell ⟨w.heap.size, 1, none⟩ (.int .i64 t.y)).setCell ⟨w.heap.size, 2, none⟩ (.int .i64 t.a)).setCell ⟨w.heap.size, 3, none⟩ (.int .i64 t.b)) := by
        have TE : Turns (fun j => j = w.heap.size) w6 ((((w6.setCell ⟨w.heap.size, 0, none⟩ (.int .i64 t.x)).setCell ⟨w.heap.size, 1, none⟩ (.int .i64 t.y)).setCell ⟨w.heap.size, 2, none⟩ (.int .i64 t.a)).setCell ⟨w.heap.size, 3, none⟩ (.int .i64 t.b)) := turns_set4 _ _ _ _ _ _
        refine ⟨_, _, hd6.kept TE (by omega), hl6.kept TE (fun b e h => ?_), he6.kept TE (fun b e h => ?_), ?_, fun b e => (by have := HN.out b e; omega), fun b e => ?_⟩
        · have := HN.out b e; omega
        · rcases hn6 b e with h7 | h7; exact hevn _ (.inl h) h7; have := F4.2.2; omega
        · exact ((HT4.out.mono (fun j _ h => .inl h)).trans (T6.mono (fun j _ h => .inl h))).trans (TE.mono (fun j _ h => .inr (by omega)))
        · exact (hn6 b e).imp id (fun h => Nat.le_trans hz4 h)
      have HEE := hide HEnd
      clear HEnd hd6 he6 T6 F6 G6 hl6 hn6 HD4 HE4 Hl4 HT4 HN
      go_wp2_with fail
      refine bodyPost_ret (v := .tuple #[rct t.x t.y t.a t.b, .int .i64 0]) (by simp [results, Tryz.results24, go_sem, y0, y1, y2, y3]) rfl ⟨rfl, HEE.out⟩
    refine wp_region_held_drew (S := fun w' => (w'.cell? ⟨w.heap.size + 1, 0, none⟩ = some (.int .i64 t.x) ∧ w'.cell? ⟨w.heap.size + 1, 1, none⟩ = some (.int .i64 t.y) ∧ w'.cell? ⟨w.heap.size + 1, 2, none⟩ = some (.int .i64 t.a) ∧ w'.cell? ⟨w.heap.size + 1, 3, none⟩ = some (.int .i64 t.b))) (by kernel_rfl) hS0 (fun hHeld => ?_)
    refine wpAnyH_take (i := 0) (v := ?_) rfl (by kernel_rfl) (by kernel_rfl) (by kernel_rfl) (fun _ _ _ h => h.elim) (Or.inl ⟨by rfl, ?_⟩) (by assumption) ?_
    rotate_left
    · intro wx hSw
      try dsimp only at hSw
      go_simp
      try with_reducible rfl
    try simp only [Act.put, List.getElem_toArray, List.getElem_cons_zero, List.setIfInBounds_toArray, List.set_cons_zero, List.set_cons_succ]
    refine wpAnyH_take (i := 1) (v := ?_) rfl (by kernel_rfl) (by kernel_rfl) (by kernel_rfl) (fun _ _ _ h => h.elim) (Or.inl ⟨by rfl, ?_⟩) (by assumption) ?_
    rotate_left
    · intro wx hSw
      try dsimp only at hSw
      go_simp
      try with_reducible rfl
    try simp only [Act.put, List.getElem_toArray, List.getElem_cons_zero, List.getElem_cons_succ, List.setIfInBounds_toArray, List.set_cons_zero, List.set_cons_succ]
    refine wpAnyH_take (i := 2) (v := ?_) rfl (by kernel_rfl) (by kernel_rfl) (by kernel_rfl) (fun _ _ _ h => h.elim) (Or.inl ⟨by rfl, ?_⟩) (by assumption) ?_
    rotate_left
    · intro wx hSw
      try dsimp only at hSw
      go_simp
      try with_reducible rfl
    try simp only [Act.put, List.getElem_toArray, List.getElem_cons_zero, List.getElem_cons_succ, List.setIfInBounds_toArray, List.set_cons_zero, List.set_cons_succ]
    refine wpAnyH_take (i := 3) (v := ?_) rfl (by kernel_rfl) (by kernel_rfl) (by kernel_rfl) (fun _ _ _ h => h.elim) (Or.inl ⟨by rfl, ?_⟩) (by assumption) ?_
    rotate_left
    · intro wx hSw
      try dsimp only at hSw
      go_simp
      try with_reducible rfl
    try simp only [Act.put, List.getElem_toArray, List.getElem_cons_zero, List.getElem_cons_succ, List.setIfInBounds_toArray, List.set_cons_zero, List.set_cons_succ]
    refine wpAnyH_take (i := 5) (v := ?_) rfl (by kernel_rfl) (by kernel_rfl) (by kernel_rfl) (fun _ _ _ h => h.elim) (Or.inl ⟨by rfl, ?_⟩) (by assumption) ?_
    rotate_left
    · intro wx hSw
      try dsimp only at hSw
      go_simp
      try with_reducible rfl
    try simp only [Act.put, List.getElem_toArray, List.getElem_cons_zero, List.getElem_cons_succ, List.setIfInBounds_toArray, List.set_cons_zero, List.set_cons_succ]
    refine wpAnyH_ready (rs := [4, 6]) (by kernel_rfl) (by simp) ?_
    refine AllReadyH.cons rfl (fun K hK => ?_) ?_
    · go_simp
      refine hK.out _ _ ?_ (fun hHeld => ?_)
      · first | exact hS0 | exact hS1 _ | exact hS2 (by assumption) | exact hS3 (by assumption)
      clear hK K
      try simp only [Act.put, List.getElem_toArray, List.getElem_cons_zero, List.getElem_cons_succ, List.setIfInBounds_toArray, List.set_cons_zero, List.set_cons_succ]
      refine wpAnyH_ready (rs := [6]) (by kernel_rfl) (by simp) ?_
      refine AllReadyH.cons rfl (fun K hK => ?_) ?_
      · go_simp
        refine hK.out _ _ ?_ (fun hHeld => ?_)
        · first | exact hS0 | exact hS1 _ | exact hS2 (by assumption) | exact hS3 (by assumption)
        clear hK K
        try simp only [Act.put, List.getElem_toArray, List.getElem_cons_zero, List.getElem_cons_succ, List.setIfInBounds_toArray, List.set_cons_zero, List.set_cons_succ]
        refine wpAnyH_ready (rs := [7]) (by kernel_rfl) (by simp) ?_
        refine AllReadyH.cons rfl (fun K hK => ?_) ?_
        · refine step_append_row rfl _ _ 90 rfl 48 fj z43 4 32 Tryz.underlying90 hfj hzj h4 h32 rfl (by decide) ev es.length _ (by simp [Act.eval]) (HE4.out.alloc _) ⟨w4.heap.size, 0, none⟩ 1 1 t.foot.cs (by simp [Act.eval]) rfl (rc_new w4 t.foot) one_rc hmj hes ?_
          intro v' w5 hown hgrow hloc'
          obtain ⟨g5, cap5, rfl⟩ := row_form hown
          have hd5 := HD4.out.kept (hTX hgrow) (HD4.out.ne_row HE4.out (by decide))
          have c45 : w5.cell? ⟨r, 4, none⟩ = some ev := hd5.c 4
          have f45 := hd5.f 4
          refine hK.out _ _ ?_ (fun hHeld => ?_)
          · first | exact hS0 | exact hS1 _ | exact hS2 (by assumption) | exact hS3 (by assumption)
          clear hK K
          try simp only [Act.put, List.getElem_toArray, List.getElem_cons_zero, List.getElem_cons_succ, List.setIfInBounds_toArray, List.set_cons_zero, List.set_cons_succ]
          refine wpAnyH_take (i := 8) (v := ?_) rfl (by kernel_rfl) (by kernel_rfl) (by kernel_rfl) (fun _ _ _ h => h.elim) (Or.inl ⟨by rfl, ?_⟩) (by assumption) ?_
          rotate_left
          · intro wx hSw
            try dsimp only at hSw
            go_simp
            try with_reducible rfl
          try simp only [Act.put, List.getElem_toArray, List.getElem_cons_zero, List.getElem_cons_succ, List.setIfInBounds_toArray, List.set_cons_zero, List.set_cons_succ]
          refine wpAnyH_take (i := 9) (v := ?_) rfl (by kernel_rfl) (by kernel_rfl) (by kernel_rfl) (fun _ _ _ h => h.elim) (Or.inl ⟨by rfl, ?_⟩) (by assumption) ?_
          rotate_left
          · intro wx hSw
            try dsimp only at hSw
            go_simp
            try with_reducible rfl
          try simp only [Act.put, List.getElem_toArray, List.getElem_cons_zero, List.getElem_cons_succ, List.setIfInBounds_toArray, List.set_cons_zero, List.set_cons_succ]
          refine wpAnyH_ready (rs := [10]) (by kernel_rfl) (by simp) ?_
          refine AllReadyH.cons rfl (fun K hK => ?_) ?_
          · go_simp
            refine hK.out _ _ ?_ (fun hHeld => ?_)
            · first | exact hS0 | exact hS1 _ | exact hS2 (by assumption) | exact hS3 (by assumption)
            clear hK K
            try simp only [Act.put, List.getElem_toArray, List.getElem_cons_zero, List.getElem_cons_succ, List.setIfInBounds_toArray, List.set_cons_zero, List.set_cons_succ]
            refine wpAnyH_done (by kernel_rfl) ?_ _
            exact ⟨_, g5, cap5, w5, rfl, rfl, rfl, hgrow, hown, hloc'⟩
          exact AllReadyH.nil
        exact AllReadyH.nil
      exact AllReadyH.nil
    refine AllReadyH.cons rfl (fun K hK => ?_) ?_
    · go_simp
      refine hK.out _ _ ?_ (fun hHeld => ?_)
      · first | exact hS0 | exact hS1 _ | exact hS2 (by assumption) | exact hS3 (by assumption)
      clear hK K
      try simp only [Act.put, List.getElem_toArray, List.getElem_cons_zero, List.getElem_cons_succ, List.setIfInBounds_toArray, List.set_cons_zero, List.set_cons_succ]
      refine wpAnyH_ready (rs := [4]) (by kernel_rfl) (by simp) ?_
      refine AllReadyH.cons rfl (fun K hK => ?_) ?_
      · go_simp
        refine hK.out _ _ ?_ (fun hHeld => ?_)
        · first | exact hS0 | exact hS1 _ | exact hS2 (by assumption) | exact hS3 (by assumption)
        clear hK K
        try simp only [Act.put, List.getElem_toArray, List.getElem_cons_zero, List.getElem_cons_succ, List.setIfInBounds_toArray, List.set_cons_zero, List.set_cons_succ]
        refine wpAnyH_ready (rs := [7]) (by kernel_rfl) (by simp) ?_
        refine AllReadyH.cons rfl (fun K hK => ?_) ?_
        · refine step_append_row rfl _ _ 90 rfl 48 fj z43 4 32 Tryz.underlying90 hfj hzj h4 h32 rfl (by decide) ev es.length _ (by simp [Act.eval]) (HE4.out.alloc _) ⟨w4.heap.size, 0, none⟩ 1 1 t.foot.cs (by simp [Act.eval]) rfl (rc_new w4 t.foot) one_rc hmj hes ?_
          intro v' w5 hown hgrow hloc'
          obtain ⟨g5, cap5, rfl⟩ := row_form hown
          have hd5 := HD4.out.kept (hTX hgrow) (HD4.out.ne_row HE4.out (by decide))
          have c45 : w5.cell? ⟨r, 4, none⟩ = some ev := hd5.c 4
          have f45 := hd5.f 4
          refine hK.out _ _ ?_ (fun hHeld => ?_)
          · first | exact hS0 | exact hS1 _ | exact hS2 (by assumption) | exact hS3 (by assumption)
          clear hK K
          try simp only [Act.put, List.getElem_toArray, List.getElem_cons_zero, List.getElem_cons_succ, List.setIfInBounds_toArray, List.set_cons_zero, List.set_cons_succ]
          refine wpAnyH_take (i := 8) (v := ?_) rfl (by kernel_rfl) (by kernel_rfl) (by kernel_rfl) (fun _ _ _ h => h.elim) (Or.inl ⟨by rfl, ?_⟩) (by assumption) ?_
          rotate_left
          · intro wx hSw
            try dsimp only at hSw
            go_simp
            try with_reducible rfl
          try simp only [Act.put, List.getElem_toArray, List.getElem_cons_zero, List.getElem_cons_succ, List.setIfInBounds_toArray, List.set_cons_zero, List.set_cons_succ]
          refine wpAnyH_take (i := 9) (v := ?_) rfl (by kernel_rfl) (by kernel_rfl) (by kernel_rfl) (fun _ _ _ h => h.elim) (Or.inl ⟨by rfl, ?_⟩) (by assumption) ?_
          rotate_left
          · intro wx hSw
            try dsimp only at hSw
            go_simp
            try with_reducible rfl
          try simp only [Act.put, List.getElem_toArray, List.getElem_cons_zero, List.getElem_cons_succ, List.setIfInBounds_toArray, List.set_cons_zero, List.set_cons_succ]
          refine wpAnyH_ready (rs := [10]) (by kernel_rfl) (by simp) ?_
          refine AllReadyH.cons rfl (fun K hK => ?_) ?_
          · go_simp
            refine hK.out _ _ ?_ (fun hHeld => ?_)
            · first | exact hS0 | exact hS1 _ | exact hS2 (by assumption) | exact hS3 (by assumption)
            clear hK K
            try simp only [Act.put, List.getElem_toArray, List.getElem_cons_zero, List.getElem_cons_succ, List.setIfInBounds_toArray, List.set_cons_zero, List.set_cons_succ]
            refine wpAnyH_done (by kernel_rfl) ?_ _
            exact ⟨_, g5, cap5, w5, rfl, rfl, rfl, hgrow, hown, hloc'⟩
          exact AllReadyH.nil
        exact AllReadyH.nil
      exact AllReadyH.nil
    exact AllReadyH.nil
  · rw [if_neg hc] at hadd
    subst hadd
    have hc' : ¬ cap - (k + 1) = 0 := by omega
    go_wp2_with (first | (go_at_call 58; refine HI.out.mono ?_; rintro e w1 ⟨rfl, rfl⟩) | (at_builtin; refine wpList_append_own_at _ rfl _ _ 23 rfl 0 50 fi z55 5 40 Tryz.underlying23 hfi hz h5 h40 rfl (by decide) (.slice none 0 0) 0 [] rfl (World.ownsRow_nil _ _ _ _) ⟨g, 0, none⟩ k cap ((l.take k).flatMap Bd.cs) rfl hTk (HT _ (box2 _ _ _)).out one_all hm1 hm2 (Nat.zero_le _) ?_; intro v1 w2 hown1 hgrow1 hnil1 hloc1; rw [Nat.zero_add, List.nil_append] at hown1; obtain ⟨a1, cap1, rfl⟩ := row_any hown1; have B2 := bt (box2 _ _ _) (below_of_grown hgrow1); have c8b : w2.cell? ⟨r, 3, none⟩ = some (.slice (some ⟨g, 0, none⟩) l.length cap) := (B2.cell (p := ⟨r, 3, none⟩) hrw).trans (HD.out.c 3); have HB2 := hide B2; have HO1 := hide hown1; have HG1 := hide hgrow1; have HL1 := hide hloc1; clear B2 hown1 hgrow1 hnil1 hloc1) | (at_builtin; refine wpList_append_own_at _ rfl _ _ 23 rfl 0 50 fi z55 5 40 Tryz.underlying23 hfi hz h5 h40 rfl (by decide) (.slice a1 k cap1) k _ rfl HO1.out ⟨g, (k + 1) * 5, none⟩ (l.length - (k + 1)) (cap - (k + 1)) ((l.drop (k + 1)).flatMap Bd.cs) rfl hDk (HT2 _ HB2.out).out one_all hm3 hm4 (Nat.zero_le _) ?_; intro v2 w3 hown2 hgrow2 hnil2 hloc2; obtain ⟨a2, cap2, rfl⟩ := row_any hown2; have B3 := two_grown HG1.out HL1.out hgrow2; have BW := bt (box2 w _ _) B3; have c8c : w3.cell? ⟨r, 3, none⟩ = some (.slice (some ⟨g, 0, none⟩) l.length cap) := (BW.cell (p := ⟨r, 3, none⟩) hrw).trans (HD.out.c 3); have f8c := (BW.frozen (p := ⟨r, 3, none⟩) hrw).trans (HD.out.f 3); have HB3 := hide B3; have HB4 := hide BW; have HO2 := hide hown2; have HL2 := hide hloc2; clear B3 BW hown2 hgrow2 hnil2 hloc2))
    have F3 : Four w3 (w.heap.size + 1) t.x t.y t.a t.b := (show Four ((Z4 w).alloc (.cells #[.int .i64 t.x, .int .i64 t.y, .int .i64 t.a, .int .i64 t.b] 48)) (w.heap.size + 1) t.x t.y t.a t.b by simp [Four, go_sem]).kept HB3.out
    have G3 : Four w3 w.heap.size 0 0 0 0 := (show Four ((Z4 w).alloc (.cells #[.int .i64 t.x, .int .i64 t.y, .int .i64 t.a, .int .i64 t.b] 48)) w.heap.size 0 0 0 0 by simp [Four, go_sem]).kept HB3.out
    have hd4 := (HD.out.kept (Turns.of_below (S := NoB) HB4.out) id).set3 (.slice a2 (k + (l.length - (k + 1))) cap2)
    have TS4 : Turns (fun j => j = r) w3 (w3.setCell ⟨r, 3, none⟩ (.slice a2 (k + (l.length - (k + 1))) cap2)) := Turns.set (S := fun j => j = r) w3 (p := ⟨r, 3, none⟩) rfl _
    have hd3 := HD.out.kept (Turns.of_below (S := NoB) HB4.out) id
    have hl3 : Bds w3 (.slice a2 (k + (l.length - (k + 1))) cap2) (del l k) := by
      have := HO2.out
      show w3.ownsRow 0 50 5 _ (del l k).length ((del l k).flatMap Bd.cs); rw [show (del l k).length = k + (l.length - (k + 1)) by simp [del]; omega, show (del l k).flatMap Bd.cs = (l.take k).flatMap Bd.cs ++ (l.drop (k + 1)).flatMap Bd.cs by simp [del]]; exact this
    have hl4 := hl3.kept TS4 (fun b e h => by subst h; exact hd3.ne_row hl3 (by decide) e)
    have he3 := HS.out.kept (Turns.of_below (S := NoB) HB4.out) (fun _ _ => id)
    have he4 := he3.kept TS4 (fun b e h => by subst h; exact hd3.ne_row he3 (by decide) e)
    have F4 := F3.turned TS4 (by omega)
    have G4 := G3.turned TS4 (by omega)
    have T4 : Turns (fun j => j = r) w _ := (Turns.of_below (S := fun j => j = r) HB4.out).trans (TS4.mono (fun j _ h => .inl h))
    have hz4 := T4.size
    obtain ⟨w4, hw4⟩ : ∃ w4, w3.setCell ⟨r, 3, none⟩ (.slice a2 (k + (l.length - (k + 1))) cap2) = w4 := ⟨_, rfl⟩
    rw [hw4] at hd4 hl4 he4 F4 G4 T4 hz4 ⊢
    have hnew : ∀ b, (Value.slice a2 (k + (l.length - (k + 1))) cap2).ownBlock = some b → w.heap.size + 2 ≤ b := fun b e => by
      have hzb : w.heap.size + 2 ≤ w2.heap.size := by have := HG1.out.size; simpa using this
      rcases HL2.out with h | h
      · rw [h] at e; exact new2 HL1.out (by simp) e
      · rw [h] at e; cases e; exact hzb
    have HN := hide hnew
    have Hl4 := hide hl4
    have HT4 := hide T4
    clear hw4 hd3 hl3 he3 F3 G3 TS4 c8b c8c f8c c8 e0 e1 e2 e3 e4 hnew hl4 T4
    obtain ⟨fj, hfj, hzj, h4, h32⟩ := info_parts info43
    have hmj : es.length + 1 ≤ maxLen := by unfold maxLen; omega
    have hevn : ∀ j, j = w.heap.size ∨ j = w.heap.size + 1 → ¬ (ev.ownBlock = some j) := fun j hj e => by have := (HS.out.lt j e).2; omega
    have hS0 : (w4.cell? ⟨w.heap.size + 1, 0, none⟩ = some (.int .i64 t.x) ∧ w4.cell? ⟨w.heap.size + 1, 1, none⟩ = some (.int .i64 t.y) ∧ w4.cell? ⟨w.heap.size + 1, 2, none⟩ = some (.int .i64 t.a) ∧ w4.cell? ⟨w.heap.size + 1, 3, none⟩ = some (.int .i64 t.b)) := F4.1
    have hS1 : ∀ o, ((w4.alloc o).cell? ⟨w.heap.size + 1, 0, none⟩ = some (.int .i64 t.x) ∧ (w4.alloc o).cell? ⟨w.heap.size + 1, 1, none⟩ = some (.int .i64 t.y) ∧ (w4.alloc o).cell? ⟨w.heap.size + 1, 2, none⟩ = some (.int .i64 t.a) ∧ (w4.alloc o).cell? ⟨w.heap.size + 1, 3, none⟩ = some (.int .i64 t.b)) := fun o => (F4.kept (box1 w4 o)).1
    have hTX : ∀ {wx : World} {o : Obj}, (w4.alloc o).drew.grownBy wx ev.ownBlock → Turns (fun k => ev.ownBlock = some k) w4 wx := fun {wx o} hg => (Turns.of_below (box1 w4 o)).trans ((Turns.of_grown (w := (w4.alloc o).drew) hg (fun k e => Or.inl e)).undrew)
    have hS2 : ∀ {wx : World} {o : Obj}, (w4.alloc o).drew.grownBy wx ev.ownBlock → (wx.cell? ⟨w.heap.size + 1, 0, none⟩ = some (.int .i64 t.x) ∧ wx.cell? ⟨w.heap.size + 1, 1, none⟩ = some (.int .i64 t.y) ∧ wx.cell? ⟨w.heap.size + 1, 2, none⟩ = some (.int .i64 t.a) ∧ wx.cell? ⟨w.heap.size + 1, 3, none⟩ = some (.int .i64 t.b)) := fun {wx o} hg => (F4.turned (hTX hg) (hevn _ (.inr rfl))).1
    have hS3 : ∀ {wx : World} {o : Obj} {v : Value}, (w4.alloc o).drew.grownBy wx ev.ownBlock → ((wx.setCell ⟨r, 4, none⟩ v).cell? ⟨w.heap.size + 1, 0, none⟩ = some (.int .i64 t.x) ∧ (wx.setCell ⟨r, 4, none⟩ v).cell? ⟨w.heap.size + 1, 1, none⟩ = some (.int .i64 t.y) ∧ (wx.setCell ⟨r, 4, none⟩ v).cell? ⟨w.heap.size + 1, 2, none⟩ = some (.int .i64 t.a) ∧ (wx.setCell ⟨r, 4, none⟩ v).cell? ⟨w.heap.size + 1, 3, none⟩ = some (.int .i64 t.b)) := fun {wx o v} hg => ((F4.turned (hTX hg) (hevn _ (.inr rfl))).turned (Turns.set (S := fun k => k = r) wx (p := ⟨r, 4, none⟩) rfl v) (by omega)).1
    have c4 : w4.cell? ⟨r, 4, none⟩ = some ev := hd4.c 4
    have c4' : ∀ o, (w4.alloc o).cell? ⟨r, 4, none⟩ = some ev := fun o => (hd4.kept (Turns.of_below (S := NoB) (box1 w4 o)) id).c 4
    have HE4 := hide he4
    have HD4 := hide hd4
    clear hd4 he4
    refine Code.wp_mono (Q := Only (fun a' w' => ∃ v5 g5 cap5 w5, v5 = .slice (some ⟨g5, 0, none⟩) (es.length + 1) cap5 ∧ w' = w5.setCell ⟨r, 4, none⟩ v5 ∧ a' = { tmps := #[ptr r, .int .i64 i, undef, undef, ptr w.heap.size, .int .i64 0, .int .i64 k, ptr (w.heap.size + 1), .slice a1 k cap1, ptr r, .int .i64 i, .int .i64 k, .int .i64 k, .bool (decide ((k : Int) < 0)), undef, ptr r, ptr r, .pointer (some ⟨r, 3, none⟩), .slice (some ⟨g, 0, none⟩) l.length cap, .int .i64 k, .pointer (some ⟨g, k * 5, none⟩), .pointer (some ⟨g, k * 5 + 1, none⟩), rct t.x t.y t.a t.b, .slice none 0 0, ptr r, ptr r, .pointer (some ⟨r, 3, none⟩), .slice (some ⟨g, 0, none⟩) l.length cap, .int .i64 k, .slice (some ⟨g, 0, none⟩) k cap, .slice a1 k cap1, ptr r, .slice a1 k cap1, ptr r, ptr r, .pointer (some ⟨r, 3, none⟩), .slice (some ⟨g, 0, none⟩) l.length cap, .int .i64 k, .int .i64 (k + 1), .slice (some ⟨g, (k + 1) * 5, none⟩) (l.length - (k + 1)) (cap - (k + 1)), .slice a2 (k + (l.length - (k + 1))) cap2, ptr r, .pointer (some ⟨r, 3, none⟩), ptr r, ptr r, ptr r, .pointer (some ⟨r, 4, none⟩), ev, rct t.x t.y t.a t.b, .slice (some ⟨w4.heap.size, 0, none⟩) 1 1, v5, ptr r, .pointer (some ⟨r, 4, none⟩), undef], defers := [] } ∧ (w4.alloc (.cells #[.int .i64 t.x, .int .i64 t.y, .int .i64 t.a, .int .i64 t.b] 48)).drew.grownBy w5 ev.ownBlock ∧ w5.ownsRow 0 48 4 v5 (es.length + 1) (es.flatMap Rc.cs ++ t.foot.cs) ∧ (v5.ownBlock = ev.ownBlock ∨ v5.ownBlock = some (w4.alloc (.cells #[.int .i64 t.x, .int .i64 t.y, .int .i64 t.a, .int .i64 t.b] 48)).drew.heap.size))) ?rest ?_
    case rest =>
      rintro (_ | _ | _ | _ | _) a' w' hO
      all_goals first | exact hO.elim | skip
      obtain ⟨v5, g5, cap5, w5, rfl, rfl, rfl, hg5, hown5, hloc5⟩ := hO
      obtain ⟨hd5, hd6, he6, T6, hn6⟩ := edits_end (f := t.foot) HD4.out HE4.out hg5 hown5 hloc5
      have F6 := (F4.turned T6 (fun h => h.elim (fun h => by omega) (hevn _ (.inr rfl))))
      have G6 := (G4.turned T6 (fun h => h.elim (fun h => by omega) (hevn _ (.inl rfl))))
      have hl6 := Hl4.out.kept T6 (fun b e h => h.elim (fun h => by subst h; exact HD4.out.ne_row Hl4.out (by decide) e) (fun h => rows_ne Hl4.out HE4.out (by decide) e h))
      obtain ⟨w6, hw6⟩ : ∃ w6, w5.setCell ⟨r, 4, none⟩ (.slice (some ⟨g5, 0, none⟩) (es.length + 1) cap5) = w6 := ⟨_, rfl⟩
      rw [hw6] at hd6 he6 T6 F6 G6 hl6 ⊢
      clear hw6 hg5 hown5 hloc5 hd5 hS0 hS1 hS2 hS3 c4 c4' hTX
      obtain ⟨⟨x0, x1, x2, x3⟩, -, xz⟩ := id F6
      obtain ⟨⟨y0, y1, y2, y3⟩, ⟨y4, y5, y6, y7⟩, yz⟩ := id G6
      have HEnd : RefRazed w r W H tv ev l es k t ((((w6.setCell ⟨w.heap.size, 0, none⟩ (.int .i64 t.x)).setCell ⟨w.heap.size, 1, none⟩ (.int .i64 t.y)).setCell ⟨w.heap.size, 2, none⟩ (.int .i64 t.a)).setCell ⟨w.heap.size, 3, none⟩ (.int .i64 t.b)) := by
        have TE : Turns (fun j => j = w.heap.size) w6 ((((w6.setCell ⟨w.heap.size, 0, none⟩ (.int .i64 t.x)).setCell ⟨w.heap.size, 1, none⟩ (.int .i64 t.y)).setCell ⟨w.heap.size, 2, none⟩ (.int .i64 t.a)).setCell ⟨w.heap.size, 3, none⟩ (.int .i64 t.b)) := turns_set4 _ _ _ _ _ _
        refine ⟨_, _, hd6.kept TE (by omega), hl6.kept TE (fun b e h => ?_), he6.kept TE (fun b e h => ?_), ?_, fun b e => (by have := HN.out b e; omega), fun b e => ?_⟩
        · have := HN.out b e; omega
        · rcases hn6 b e with h7 | h7; exact hevn _ (.inl h) h7; have := F4.2.2; omega
        · exact ((HT4.out.mono (fun j _ h => .inl h)).trans (T6.mono (fun j _ h => .inl h))).trans (TE.mono (fun j _ h => .inr (by omega)))
        · exact (hn6 b e).imp id (fun h => Nat.le_trans hz4 h)
      have HEE := hide HEnd
      clear HEnd hd6 he6 T6 F6 G6 hl6 hn6 HD4 HE4 Hl4 HT4 HN
      go_wp2_with fail
      refine bodyPost_ret (v := .tuple #[rct t.x t.y t.a t.b, .int .i64 0]) (by simp [results, Tryz.results24, go_sem, y0, y1, y2, y3]) rfl ⟨rfl, HEE.out⟩
    refine wp_region_held_drew (S := fun w' => (w'.cell? ⟨w.heap.size + 1, 0, none⟩ = some (.int .i64 t.x) ∧ w'.cell? ⟨w.heap.size + 1, 1, none⟩ = some (.int .i64 t.y) ∧ w'.cell? ⟨w.heap.size + 1, 2, none⟩ = some (.int .i64 t.a) ∧ w'.cell? ⟨w.heap.size + 1, 3, none⟩ = some (.int .i64 t.b))) (by kernel_rfl) hS0 (fun hHeld => ?_)
    refine wpAnyH_take (i := 0) (v := ?_) rfl (by kernel_rfl) (by kernel_rfl) (by kernel_rfl) (fun _ _ _ h => h.elim) (Or.inl ⟨by rfl, ?_⟩) (by assumption) ?_
    rotate_left
    · intro wx hSw
      try dsimp only at hSw
      go_simp
      try with_reducible rfl
    try simp only [Act.put, List.getElem_toArray, List.getElem_cons_zero, List.setIfInBounds_toArray, List.set_cons_zero, List.set_cons_succ]
    refine wpAnyH_take (i := 1) (v := ?_) rfl (by kernel_rfl) (by kernel_rfl) (by kernel_rfl) (fun _ _ _ h => h.elim) (Or.inl ⟨by rfl, ?_⟩) (by assumption) ?_
    rotate_left
    · intro wx hSw
      try dsimp only at hSw
      go_simp
      try with_reducible rfl
    try simp only [Act.put, List.getElem_toArray, List.getElem_cons_zero, List.getElem_cons_succ, List.setIfInBounds_toArray, List.set_cons_zero, List.set_cons_succ]
    refine wpAnyH_take (i := 2) (v := ?_) rfl (by kernel_rfl) (by kernel_rfl) (by kernel_rfl) (fun _ _ _ h => h.elim) (Or.inl ⟨by rfl, ?_⟩) (by assumption) ?_
    rotate_left
    · intro wx hSw
      try dsimp only at hSw
      go_simp
      try with_reducible rfl
    try simp only [Act.put, List.getElem_toArray, List.getElem_cons_zero, List.getElem_cons_succ, List.setIfInBounds_toArray, List.set_cons_zero, List.set_cons_succ]
    refine wpAnyH_take (i := 3) (v := ?_) rfl (by kernel_rfl) (by kernel_rfl) (by kernel_rfl) (fun _ _ _ h => h.elim) (Or.inl ⟨by rfl, ?_⟩) (by assumption) ?_
    rotate_left
    · intro wx hSw
      try dsimp only at hSw
      go_simp
      try with_reducible rfl
    try simp only [Act.put, List.getElem_toArray, List.getElem_cons_zero, List.getElem_cons_succ, List.setIfInBounds_toArray, List.set_cons_zero, List.set_cons_succ]
    refine wpAnyH_take (i := 5) (v := ?_) rfl (by kernel_rfl) (by kernel_rfl) (by kernel_rfl) (fun _ _ _ h => h.elim) (Or.inl ⟨by rfl, ?_⟩) (by assumption) ?_
    rotate_left
    · intro wx hSw
      try dsimp only at hSw
      go_simp
      try with_reducible rfl
    try simp only [Act.put, List.getElem_toArray, List.getElem_cons_zero, List.getElem_cons_succ, List.setIfInBounds_toArray, List.set_cons_zero, List.set_cons_succ]
    refine wpAnyH_ready (rs := [4, 6]) (by kernel_rfl) (by simp) ?_
    refine AllReadyH.cons rfl (fun K hK => ?_) ?_
    · go_simp
      refine hK.out _ _ ?_ (fun hHeld => ?_)
      · first | exact hS0 | exact hS1 _ | exact hS2 (by assumption) | exact hS3 (by assumption)
      clear hK K
      try simp only [Act.put, List.getElem_toArray, List.getElem_cons_zero, List.getElem_cons_succ, List.setIfInBounds_toArray, List.set_cons_zero, List.set_cons_succ]
      refine wpAnyH_ready (rs := [6]) (by kernel_rfl) (by simp) ?_
      refine AllReadyH.cons rfl (fun K hK => ?_) ?_
      · go_simp
        refine hK.out _ _ ?_ (fun hHeld => ?_)
        · first | exact hS0 | exact hS1 _ | exact hS2 (by assumption) | exact hS3 (by assumption)
        clear hK K
        try simp only [Act.put, List.getElem_toArray, List.getElem_cons_zero, List.getElem_cons_succ, List.setIfInBounds_toArray, List.set_cons_zero, List.set_cons_succ]
        refine wpAnyH_ready (rs := [7]) (by kernel_rfl) (by simp) ?_
        refine AllReadyH.cons rfl (fun K hK => ?_) ?_
        · refine step_append_row rfl _ _ 90 rfl 48 fj z43 4 32 Tryz.underlying90 hfj hzj h4 h32 rfl (by decide) ev es.length _ (by simp [Act.eval]) (HE4.out.alloc _) ⟨w4.heap.size, 0, none⟩ 1 1 t.foot.cs (by simp [Act.eval]) rfl (rc_new w4 t.foot) one_rc hmj hes ?_
          intro v' w5 hown hgrow hloc'
          obtain ⟨g5, cap5, rfl⟩ := row_form hown
          have hd5 := HD4.out.kept (hTX hgrow) (HD4.out.ne_row HE4.out (by decide))
          have c45 : w5.cell? ⟨r, 4, none⟩ = some ev := hd5.c 4
          have f45 := hd5.f 4
          refine hK.out _ _ ?_ (fun hHeld => ?_)
          · first | exact hS0 | exact hS1 _ | exact hS2 (by assumption) | exact hS3 (by assumption)
          clear hK K
          try simp only [Act.put, List.getElem_toArray, List.getElem_cons_zero, List.getElem_cons_succ, List.setIfInBounds_toArray, List.set_cons_zero, List.set_cons_succ]
          refine wpAnyH_take (i := 8) (v := ?_) rfl (by kernel_rfl) (by kernel_rfl) (by kernel_rfl) (fun _ _ _ h => h.elim) (Or.inl ⟨by rfl, ?_⟩) (by assumption) ?_
          rotate_left
          · intro wx hSw
            try dsimp only at hSw
            go_simp
            try with_reducible rfl
          try simp only [Act.put, List.getElem_toArray, List.getElem_cons_zero, List.getElem_cons_succ, List.setIfInBounds_toArray, List.set_cons_zero, List.set_cons_succ]
          refine wpAnyH_take (i := 9) (v := ?_) rfl (by kernel_rfl) (by kernel_rfl) (by kernel_rfl) (fun _ _ _ h => h.elim) (Or.inl ⟨by rfl, ?_⟩) (by assumption) ?_
          rotate_left
          · intro wx hSw
            try dsimp only at hSw
            go_simp
            try with_reducible rfl
          try simp only [Act.put, List.getElem_toArray, List.getElem_cons_zero, List.getElem_cons_succ, List.setIfInBounds_toArray, List.set_cons_zero, List.set_cons_succ]
          refine wpAnyH_ready (rs := [10]) (by kernel_rfl) (by simp) ?_
          refine AllReadyH.cons rfl (fun K hK => ?_) ?_
          · go_simp
            refine hK.out _ _ ?_ (fun hHeld => ?_)
            · first | exact hS0 | exact hS1 _ | exact hS2 (by assumption) | exact hS3 (by assumption)
            clear hK K
            try simp only [Act.put, List.getElem_toArray, List.getElem_cons_zero, List.getElem_cons_succ, List.setIfInBounds_toArray, List.set_cons_zero, List.set_cons_succ]
            refine wpAnyH_done (by kernel_rfl) ?_ _
            exact ⟨_, g5, cap5, w5, rfl, rfl, rfl, hgrow, hown, hloc'⟩
          exact AllReadyH.nil
        exact AllReadyH.nil
      exact AllReadyH.nil
    refine AllReadyH.cons rfl (fun K hK => ?_) ?_
    · go_simp
      refine hK.out _ _ ?_ (fun hHeld => ?_)
      · first | exact hS0 | exact hS1 _ | exact hS2 (by assumption) | exact hS3 (by assumption)
      clear hK K
      try simp only [Act.put, List.getElem_toArray, List.getElem_cons_zero, List.getElem_cons_succ, List.setIfInBounds_toArray, List.set_cons_zero, List.set_cons_succ]
      refine wpAnyH_ready (rs := [4]) (by kernel_rfl) (by simp) ?_
      refine AllReadyH.cons rfl (fun K hK => ?_) ?_
      · go_simp
        refine hK.out _ _ ?_ (fun hHeld => ?_)
        · first | exact hS0 | exact hS1 _ | exact hS2 (by assumption) | exact hS3 (by assumption)
        clear hK K
        try simp only [Act.put, List.getElem_toArray, List.getElem_cons_zero, List.getElem_cons_succ, List.setIfInBounds_toArray, List.set_cons_zero, List.set_cons_succ]
        refine wpAnyH_ready (rs := [7]) (by kernel_rfl) (by simp) ?_
        refine AllReadyH.cons rfl (fun K hK => ?_) ?_
        · refine step_append_row rfl _ _ 90 rfl 48 fj z43 4 32 Tryz.underlying90 hfj hzj h4 h32 rfl (by decide) ev es.length _ (by simp [Act.eval]) (HE4.out.alloc _) ⟨w4.heap.size, 0, none⟩ 1 1 t.foot.cs (by simp [Act.eval]) rfl (rc_new w4 t.foot) one_rc hmj hes ?_
          intro v' w5 hown hgrow hloc'
          obtain ⟨g5, cap5, rfl⟩ := row_form hown
          have hd5 := HD4.out.kept (hTX hgrow) (HD4.out.ne_row HE4.out (by decide))
          have c45 : w5.cell? ⟨r, 4, none⟩ = some ev := hd5.c 4
          have f45 := hd5.f 4
          refine hK.out _ _ ?_ (fun hHeld => ?_)
          · first | exact hS0 | exact hS1 _ | exact hS2 (by assumption) | exact hS3 (by assumption)
          clear hK K
          try simp only [Act.put, List.getElem_toArray, List.getElem_cons_zero, List.getElem_cons_succ, List.setIfInBounds_toArray, List.set_cons_zero, List.set_cons_succ]
          refine wpAnyH_take (i := 8) (v := ?_) rfl (by kernel_rfl) (by kernel_rfl) (by kernel_rfl) (fun _ _ _ h => h.elim) (Or.inl ⟨by rfl, ?_⟩) (by assumption) ?_
          rotate_left
          · intro wx hSw
            try dsimp only at hSw
            go_simp
            try with_reducible rfl
          try simp only [Act.put, List.getElem_toArray, List.getElem_cons_zero, List.getElem_cons_succ, List.setIfInBounds_toArray, List.set_cons_zero, List.set_cons_succ]
          refine wpAnyH_take (i := 9) (v := ?_) rfl (by kernel_rfl) (by kernel_rfl) (by kernel_rfl) (fun _ _ _ h => h.elim) (Or.inl ⟨by rfl, ?_⟩) (by assumption) ?_
          rotate_left
          · intro wx hSw
            try dsimp only at hSw
            go_simp
            try with_reducible rfl
          try simp only [Act.put, List.getElem_toArray, List.getElem_cons_zero, List.getElem_cons_succ, List.setIfInBounds_toArray, List.set_cons_zero, List.set_cons_succ]
          refine wpAnyH_ready (rs := [10]) (by kernel_rfl) (by simp) ?_
          refine AllReadyH.cons rfl (fun K hK => ?_) ?_
          · go_simp
            refine hK.out _ _ ?_ (fun hHeld => ?_)
            · first | exact hS0 | exact hS1 _ | exact hS2 (by assumption) | exact hS3 (by assumption)
            clear hK K
            try simp only [Act.put, List.getElem_toArray, List.getElem_cons_zero, List.getElem_cons_succ, List.setIfInBounds_toArray, List.set_cons_zero, List.set_cons_succ]
            refine wpAnyH_done (by kernel_rfl) ?_ _
            exact ⟨_, g5, cap5, w5, rfl, rfl, rfl, hgrow, hown, hloc'⟩
          exact AllReadyH.nil
        exact AllReadyH.nil
      exact AllReadyH.nil
    exact AllReadyH.nil
end Go.Proofs.YtoheibfijpdmfaaGreatDoor
set_option linter.unusedSimpArgs false
namespace Go.Proofs.YtoheibfijpdmfaaGreatDoor
open Go.RowKit
set_option linter.unusedVariables false
/-- The two worlds' own blocks lie apart. -/
structure BoAt (N : Nat) (w : World) (p r : Nat) (W H : Int) (tl : List Nat) (l : List Bd) (es : List Rc) (bm n : Nat) (tv bv ev rt rb re : Value) : Prop where
  d : Wd w p W H tv bv bm ev
  t : Tls w tv tl
  b : Bds w bv l
  f : Who w bm n (whoF l)
  e : Rcs w ev es
  d' : Rd w r W H rt rb re
  t' : Tls w rt tl
  b' : Bds w rb l
  e' : Rcs w re es
  sb : ∀ k, bv.ownBlock = some k → rb.ownBlock ≠ some k
  se : ∀ k, ev.ownBlock = some k → re.ownBlock ≠ some k
  np : N ≤ p
  nr : N ≤ r
  nm : N ≤ bm
  nb : ∀ k, bv.ownBlock = some k → N ≤ k
  ne : ∀ k, ev.ownBlock = some k → N ≤ k
  nb' : ∀ k, rb.ownBlock = some k → N ≤ k
  ne' : ∀ k, re.ownBlock = some k → N ≤ k
theorem wd_ne_rd {w : World} {p r bm : Nat} {W H W' H' : Int} {tv bv ev rt rb re : Value} (h : Wd w p W H tv bv bm ev) (h' : Rd w r W' H' rt rb re) : p ≠ r := fun e => by
  subst e
  have a : w.heap[p]? = _ := h
  have b : w.heap[p]? = _ := h'
  rw [a] at b
  cases b
theorem who_ne_cells {w : World} {b n r : Nat} {f : Int → Int → Option Int} {W H : Int} {rt rb re : Value} (h : Who w b n f) (h' : Rd w r W H rt rb re) : b ≠ r := fun e => by
  subst e
  obtain ⟨D, ⟨es, clock, h1, h2⟩, -⟩ := h
  have b' : w.heap[b]? = _ := h'
  rw [h1] at b'
  cases b'
section
variable {N : Nat} {w w' : World} {p r : Nat} {W H : Int} {tl : List Nat} {l : List Bd} {es : List Rc} {bm n : Nat} {tv bv ev rt rb re : Value}
/-- What the document has, behind a turn of the program's. -/
theorem BoAt.doc (h : BoAt N w p r W H tl l es bm n tv bv ev rt rb re) (T : Turns (fun k => k = p ∨ k = bm ∨ bv.ownBlock = some k ∨ ev.ownBlock = some k) w w') : Rd w' r W H rt rb re ∧ Tls w' rt tl ∧ Bds w' rb l ∧ Rcs w' re es := by
  refine ⟨h.d'.kept T ?_, h.t'.kept T (fun k e => ?_), h.b'.kept T (fun k e => ?_), h.e'.kept T (fun k e => ?_)⟩
  · rintro (q | q | q | q)
    · exact wd_ne_rd h.d h.d' q.symm
    · exact who_ne_cells h.f h.d' q.symm
    · exact h.d'.ne_row h.b (by decide) q
    · exact h.d'.ne_row h.e (by decide) q
  · rintro (q | q | q | q)
    · subst q; exact h.d.ne_row h.t' (by decide) e
    · subst q; exact row_ne_map h.t' h.f e
    · exact rows_ne h.t' h.b (by decide) e q
    · exact rows_ne h.t' h.e (by decide) e q
  · rintro (q | q | q | q)
    · subst q; exact h.d.ne_row h.b' (by decide) e
    · subst q; exact row_ne_map h.b' h.f e
    · exact h.sb k q e
    · exact rows_ne h.b' h.e (by decide) e q
  · rintro (q | q | q | q)
    · subst q; exact h.d.ne_row h.e' (by decide) e
    · subst q; exact row_ne_map h.e' h.f e
    · exact rows_ne h.e' h.b (by decide) e q
    · exact h.se k q e
/-- Behind a turn of the document's the program's is as it was. -/
theorem prog_kept {l l' : List Bd} {es es' : List Rc} {f : Int → Int → Option Int} (hd : Wd w p W H tv bv bm ev) (ht : Tls w tv tl) (hb : Bds w bv l) (hf : Who w bm n f) (he : Rcs w ev es) (hd' : Rd w r W H rt rb re) (hb' : Bds w rb l') (he' : Rcs w re es')
    (sb : ∀ k, bv.ownBlock = some k → rb.ownBlock ≠ some k) (se : ∀ k, ev.ownBlock = some k → re.ownBlock ≠ some k)
    (T : Turns (fun k => k = r ∨ rb.ownBlock = some k ∨ re.ownBlock = some k) w w') : Wd w' p W H tv bv bm ev ∧ Tls w' tv tl ∧ Bds w' bv l ∧ Who w' bm n f ∧ Rcs w' ev es := by
  refine ⟨hd.kept T ?_, ht.kept T (fun k e => ?_), hb.kept T (fun k e => ?_), hf.kept T ?_, he.kept T (fun k e => ?_)⟩
  · rintro (q | q | q)
    · exact wd_ne_rd hd hd' q
    · exact hd.ne_row hb' (by decide) q
    · exact hd.ne_row he' (by decide) q
  · rintro (q | q | q)
    · subst q; exact hd'.ne_row ht (by decide) e
    · exact rows_ne ht hb' (by decide) e q
    · exact rows_ne ht he' (by decide) e q
  · rintro (q | q | q)
    · subst q; exact hd'.ne_row hb (by decide) e
    · exact sb k e q
    · exact rows_ne hb he' (by decide) e q
  · rintro (q | q | q)
    · exact who_ne_cells hf hd' q
    · exact row_ne_map hb' hf q
    · exact row_ne_map he' hf q
  · rintro (q | q | q)
    · subst q; exact hd'.ne_row he (by decide) e
    · exact rows_ne he hb' (by decide) e q
    · exact se k e q
theorem BoAt.below (h : BoAt N w p r W H tl l es bm n tv bv ev rt rb re) (hb : Below w.heap.size w w') : BoAt N w' p r W H tl l es bm n tv bv ev rt rb re := by
  have T : Turns NoB w w' := Turns.of_below hb
  exact { h with d := h.d.kept T id, t := h.t.kept T (fun _ _ => id), b := h.b.kept T (fun _ _ => id), f := h.f.kept T id, e := h.e.kept T (fun _ _ => id), d' := h.d'.kept T id, t' := h.t'.kept T (fun _ _ => id), b' := h.b'.kept T (fun _ _ => id), e' := h.e'.kept T (fun _ _ => id) }
/-- Both have been turned, one behind the other. -/
theorem BoAt.two {w2 : World} {l' : List Bd} {es' : List Rc} {n' : Nat} {bv' ev' rb' re' : Value} (h : BoAt N w p r W H tl l es bm n tv bv ev rt rb re) (hN : N ≤ w.heap.size)
    (d1 : Wd w' p W H tv bv' bm ev') (b1 : Bds w' bv' l') (f1 : Who w' bm n' (whoF l')) (e1 : Rcs w' ev' es') (T1 : Turns (fun k => k = p ∨ k = bm ∨ bv.ownBlock = some k ∨ ev.ownBlock = some k) w w')
    (o1 : ∀ k, bv'.ownBlock = some k → bv.ownBlock = some k ∨ w.heap.size ≤ k) (o2 : ∀ k, ev'.ownBlock = some k → ev.ownBlock = some k ∨ w.heap.size ≤ k)
    (d2 : Rd w2 r W H rt rb' re') (b2 : Bds w2 rb' l') (e2 : Rcs w2 re' es') (T2 : Turns (fun k => k = r ∨ rb.ownBlock = some k ∨ re.ownBlock = some k) w' w2)
    (o3 : ∀ k, rb'.ownBlock = some k → rb.ownBlock = some k ∨ w'.heap.size ≤ k) (o4 : ∀ k, re'.ownBlock = some k → re.ownBlock = some k ∨ w'.heap.size ≤ k) :
    BoAt N w2 p r W H tl l' es' bm n' tv bv' ev' rt rb' re' ∧ Below N w w2 := by
  have hdoc := h.doc T1
  have t1 : Tls w' tv tl := h.t.kept T1 (fun k e => by
    rintro (q | q | q | q)
    · subst q; exact h.d.ne_row h.t (by decide) e
    · subst q; exact row_ne_map h.t h.f e
    · exact rows_ne h.t h.b (by decide) e q
    · exact rows_ne h.t h.e (by decide) e q)
  have sb1 : ∀ k, bv'.ownBlock = some k → rb.ownBlock ≠ some k := fun k e q => by
    rcases o1 k e with h1 | h1
    · exact h.sb k h1 q
    · have := (h.b'.lt k q).2; omega
  have se1 : ∀ k, ev'.ownBlock = some k → re.ownBlock ≠ some k := fun k e q => by
    rcases o2 k e with h1 | h1
    · exact h.se k h1 q
    · have := (h.e'.lt k q).2; omega
  obtain ⟨d3, t3, b3, f3, e3⟩ := prog_kept d1 t1 b1 f1 e1 hdoc.1 hdoc.2.2.1 hdoc.2.2.2 sb1 se1 T2
  have z1 := T1.size
  have B1 : Below N w w' := T1.below (fun k q => by
    rcases q with q | q | q | q
    · have := h.np; omega
    · have := h.nm; omega
    · exact h.nb k q
    · exact h.ne k q) hN
  have B2 : Below N w' w2 := T2.below (fun k q => by
    rcases q with q | q | q
    · have := h.nr; omega
    · exact h.nb' k q
    · exact h.ne' k q) (by omega)
  refine ⟨⟨d3, t3, b3, f3, e3, d2, hdoc.2.1.kept T2 (fun k e => ?_), b2, e2, fun k e q => ?_, fun k e q => ?_, h.np, h.nr, h.nm, fun k e => ?_, fun k e => ?_, fun k e => ?_, fun k e => ?_⟩, B1.trans B2⟩
  · rintro (q | q | q)
    · subst q; exact hdoc.1.ne_row hdoc.2.1 (by decide) e
    · exact rows_ne hdoc.2.1 hdoc.2.2.1 (by decide) e q
    · exact rows_ne hdoc.2.1 hdoc.2.2.2 (by decide) e q
  · rcases o3 k q with h1 | h1
    · exact sb1 k e h1
    · have := (b1.lt k e).2; omega
  · rcases o4 k q with h1 | h1
    · exact se1 k e h1
    · have := (e1.lt k e).2; omega
  · rcases o1 k e with h1 | h1
    · exact h.nb k h1
    · omega
  · rcases o2 k e with h1 | h1
    · exact h.ne k h1
    · omega
  · rcases o3 k e with h1 | h1
    · exact h.nb' k h1
    · omega
  · rcases o4 k e with h1 | h1
    · exact h.ne' k h1
    · omega
end
end Go.Proofs.YtoheibfijpdmfaaGreatDoor
namespace Go.Proofs.YtoheibfijpdmfaaGreatDoor
open Go.RowKit
set_option linter.unusedVariables false
theorem cs_set (t : Bd) : ∀ (L : List Bd) (j : Nat), j < L.length → (L.set j t).flatMap Bd.cs = (((((L.flatMap Bd.cs).set (j * 5) (.int .i64 t.id)).set (j * 5 + 1) (.int .i64 t.x)).set (j * 5 + 2) (.int .i64 t.y)).set (j * 5 + 3) (.int .i64 t.a)).set (j * 5 + 4) (.int .i64 t.b)
  | [], j, h => by simp at h
  | s :: r, 0, _ => by simp [Bd.cs]
  | s :: r, j + 1, h => by
    have hj : j < r.length := by simpa using h
    rw [List.set_cons_succ, List.flatMap_cons, cs_set t r j hj, List.flatMap_cons]
    have hs : s.cs.length = 5 := rfl
    have key : ∀ (R : List Value) (o : Nat) (u : Value), (s.cs ++ R).set ((j + 1) * 5 + o) u = s.cs ++ R.set (j * 5 + o) u := fun R o u => by
      rw [List.set_append, if_neg (by omega), hs, show (j + 1) * 5 + o - 5 = j * 5 + o by omega]
    have k0 := key (r.flatMap Bd.cs) 0 (.int .i64 t.id)
    simp only [Nat.add_zero] at k0
    rw [k0, key, key, key, key]
/-- A list with t put in at k. -/
def sh (l : List Bd) (t : Bd) (k : Nat) : List Bd := l.take k ++ t :: l.drop k
theorem sh_len {l : List Bd} {t : Bd} {k : Nat} (hk : k ≤ l.length) : (sh l t k).length = l.length + 1 := by simp [sh]; omega
theorem sh_at {l : List Bd} {t : Bd} {k : Nat} (hk : k ≤ l.length) : (sh l t k)[k]? = some t := by
  unfold sh
  rw [List.getElem?_append_right (by simp; omega), List.length_take, Nat.min_eq_left hk]
  simp
theorem sh_before {l : List Bd} {t s : Bd} {k : Nat} (hk : k + 1 ≤ l.length) (hs : l[k]? = some s) : (sh l t (k + 1))[k]? = some s := by
  unfold sh
  rw [List.getElem?_append_left (by simp; omega), List.getElem?_take, if_pos (by omega), hs]
theorem sh_swap {l : List Bd} {t s : Bd} {k : Nat} (hk : k + 1 ≤ l.length) (hs : l[k]? = some s) : ((sh l t (k + 1)).set (k + 1) s).set k t = sh l t k := by
  have e1 : l.take (k + 1) = l.take k ++ [s] := by
    rw [List.take_add_one, hs]; rfl
  have e2 : l.drop k = s :: l.drop (k + 1) := by
    rw [List.drop_eq_getElem_cons (by omega)]
    congr 1
    have := List.getElem?_eq_getElem (l := l) (i := k) (by omega)
    rw [hs] at this
    exact (Option.some.inj this).symm
  have hl : (l.take k).length = k := by simp; omega
  unfold sh
  rw [e1, e2, List.append_assoc, List.set_append, if_neg (by omega), hl, show k + 1 - k = 1 by omega, List.singleton_append, List.set_cons_succ, List.set_cons_zero, List.set_append, if_neg (by omega), hl, Nat.sub_self, List.set_cons_zero]
theorem sh_end {l : List Bd} {t : Bd} {k : Nat} (hs : Sorted l) (hk : k ≤ l.length) (h1 : ∀ j s, l[j]? = some s → k ≤ j → t.id < s.id) (h2 : ∀ j s, l[j]? = some s → j + 1 = k → s.id < t.id) : sh l t k = ins l t := by
  have hp : pos l t.id = k := by
    have hpl := pos_le l t.id
    rcases Nat.lt_trichotomy (pos l t.id) k with h | h | h
    · exfalso
      obtain ⟨s, hsk⟩ : ∃ s, l[k - 1]? = some s := ⟨_, List.getElem?_eq_getElem (by omega)⟩
      have h3 := h2 _ s hsk (by omega)
      have := (pos_iff hs t.id (k - 1) s hsk).1 h3
      omega
    · exact h
    · exfalso
      obtain ⟨s, hsk⟩ : ∃ s, l[k]? = some s := ⟨_, List.getElem?_eq_getElem (by omega)⟩
      have h3 := h1 _ s hsk (Nat.le_refl _)
      have := (pos_iff hs t.id k s hsk).2 h
      omega
  rw [ins, hp, sh]
/-- A row of n buildings. -/
abbrev Row (w : World) (g n cap : Nat) (L : List Bd) : Prop := w.ownsRow 0 50 5 (.slice (some ⟨g, 0, none⟩) n cap) n (L.flatMap Bd.cs)
theorem Row.bds {w : World} {g n cap : Nat} {L : List Bd} (h : Row w g n cap L) (hn : L.length = n) : Bds w (.slice (some ⟨g, 0, none⟩) L.length cap) L := by subst hn; exact h
theorem Row.at {w : World} {g n cap : Nat} {L : List Bd} (h : Row w g n cap L) {j : Nat} {s : Bd} (hs : L[j]? = some s) :
    (w.cell? ⟨g, j * 5, none⟩ = some (.int .i64 s.id) ∧ w.cell? ⟨g, j * 5 + 1, none⟩ = some (.int .i64 s.x) ∧ w.cell? ⟨g, j * 5 + 2, none⟩ = some (.int .i64 s.y) ∧ w.cell? ⟨g, j * 5 + 3, none⟩ = some (.int .i64 s.a) ∧ w.cell? ⟨g, j * 5 + 4, none⟩ = some (.int .i64 s.b)) ∧ ∀ o, w.frozen? ⟨g, o, none⟩ = false := by
  have hc : ∀ o u, s.cs[o]? = some u → o < 5 → w.cell? ⟨g, j * 5 + o, none⟩ = some u := fun o u hu ho => by
    have := World.ownsRow.cells h (g := g) rfl (j * 5 + o) u (by rw [cs_get L j s o hs ho]; exact hu)
    simpa [Addr.add_lit] using this
  refine ⟨⟨hc 0 _ rfl (by omega), hc 1 _ rfl (by omega), hc 2 _ rfl (by omega), hc 3 _ rfl (by omega), hc 4 _ rfl (by omega)⟩, fun o => ?_⟩
  rcases h.2 with ⟨e, _⟩ | ⟨g', cap', cur, e, hb, hg, r⟩
  · cases e
  · simp only [Value.slice.injEq, Option.some.injEq, Addr.mk.injEq, and_true, true_and] at e
    obtain ⟨rfl, rfl⟩ := e
    simp [World.frozen?, hg]
theorem Row.set {w : World} {g n cap : Nat} {L : List Bd} (h : Row w g n cap L) {j : Nat} (hj : j < L.length) (t : Bd) :
    Row (((((w.setCell ⟨g, j * 5, none⟩ (.int .i64 t.id)).setCell ⟨g, j * 5 + 1, none⟩ (.int .i64 t.x)).setCell ⟨g, j * 5 + 2, none⟩ (.int .i64 t.y)).setCell ⟨g, j * 5 + 3, none⟩ (.int .i64 t.a)).setCell ⟨g, j * 5 + 4, none⟩ (.int .i64 t.b)) g n cap (L.set j t) := by
  unfold Row
  rw [cs_set t L j hj]
  exact (World.ownsRow.stored (World.ownsRow.stored (World.ownsRow.stored (World.ownsRow.stored (World.ownsRow.stored h (j * 5) _).1 (j * 5 + 1) _).1 (j * 5 + 2) _).1 (j * 5 + 3) _).1 (j * 5 + 4) _).1
theorem turns_set5 (w : World) (g o1 o2 o3 o4 o5 : Nat) (a b c d e : Value) : Turns (fun j => j = g) w (((((w.setCell ⟨g, o1, none⟩ a).setCell ⟨g, o2, none⟩ b).setCell ⟨g, o3, none⟩ c).setCell ⟨g, o4, none⟩ d).setCell ⟨g, o5, none⟩ e) :=
  ((((Turns.set (S := fun j => j = g) w (p := ⟨g, o1, none⟩) rfl a).trans ((Turns.set (S := fun j => j = g) _ (p := ⟨g, o2, none⟩) rfl b).mono (fun _ _ h => .inl h))).trans ((Turns.set (S := fun j => j = g) _ (p := ⟨g, o3, none⟩) rfl c).mono (fun _ _ h => .inl h))).trans ((Turns.set (S := fun j => j = g) _ (p := ⟨g, o4, none⟩) rfl d).mono (fun _ _ h => .inl h))).trans ((Turns.set (S := fun j => j = g) _ (p := ⟨g, o5, none⟩) rfl e).mono (fun _ _ h => .inl h))
end Go.Proofs.YtoheibfijpdmfaaGreatDoor
