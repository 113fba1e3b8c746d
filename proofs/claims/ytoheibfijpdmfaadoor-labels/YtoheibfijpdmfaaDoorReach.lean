/-
  The cells at which the greatest shape would have a tile of a rectangle.
-/
import Derived.Test.YtoheibfijpdmfaaDoorMeet
import Derived.Test.YtoheibfijpdmfaaDoorFld
import Derived.Test.YtoheibfijpdmfaaDoorRaze2
set_option linter.unusedSimpArgs false
namespace Go.Proofs.YtoheibfijpdmfaaDoor
open Go.RowKit
set_option linter.unusedVariables false
theorem meet_in {W H x y a b : Int} (hW : gs W 128 = true) (hH : gs H 128 = true) (h : wi x y a b 0 0 W H = true) :
    mtB (x - 3) (y - 3) (a + 3) (b + 3) 0 0 W H = true ∧ mtV (x - 3) (y - 3) (a + 3) (b + 3) 0 0 W H = rct (max (x - 3) 0) (max (y - 3) 0) (x + a - max (x - 3) 0) (y + b - max (y - 3) 0) := by
  simp only [gs, decide_eq_true_eq] at hW hH
  simp only [wi, Bool.and_eq_true] at h
  obtain ⟨h0, h1, h2⟩ := h
  have m0 := (may_iff _ _ _ _).1 h0
  have m1 := (has_iff _ _ _ _ _ _).1 h1
  have m2 := (has_iff _ _ _ _ _ _).1 h2
  have hb : mtB (x - 3) (y - 3) (a + 3) (b + 3) 0 0 W H = true := by
    simp only [mtB, Bool.and_eq_true, decide_eq_true_eq, may_iff]
    omega
  refine ⟨hb, ?_⟩
  rw [mtV_yes hb]
  unfold span
  have e1 : min (x - 3 + (a + 3) - 1) (0 + W - 1) - max (x - 3) 0 + 1 = x + a - max (x - 3) 0 := by omega
  have e2 : min (y - 3 + (b + 3) - 1) (0 + H - 1) - max (y - 3) 0 + 1 = y + b - max (y - 3) 0 := by omega
  rw [e1, e2]
set_option maxRecDepth 100000 in
set_option maxHeartbeats 4000000 in
theorem reach_any {w : World} {p q b n : Nat} {cl ep W H : Int} (x y a c : Int) (hd : Fd w p q cl W H b n ep) (hW : gs W 128 = true) (hH : gs H 128 = true) (h : wi x y a c 0 0 W H = true) :
    Calls Tryd.prog 95 #[ptr p, rct x y a c] w fun e w' => e = .returned (rct (max (x - 3) 0) (max (y - 3) 0) (x + a - max (x - 3) 0) (y + c - max (y - 3) 0)) ∧ Below w.heap.size w w' := by
  have hrg : (0 ≤ x ∧ x ≤ 128) ∧ (0 ≤ y ∧ y ≤ 128) ∧ (1 ≤ a ∧ a ≤ 128) ∧ (1 ≤ c ∧ c ≤ 128) := by
    simp only [gs, decide_eq_true_eq] at hW hH
    simp only [wi, Bool.and_eq_true] at h
    obtain ⟨h0, h1, h2⟩ := h
    have m0 := (may_iff _ _ _ _).1 h0
    have m1 := (has_iff _ _ _ _ _ _).1 h1
    have m2 := (has_iff _ _ _ _ _ _).1 h2
    omega
  have HM : Hid (∀ wx, Calls Tryd.prog 101 #[rct (x - 3) (y - 3) (a + 3) (c + 3), rct 0 0 W H] wx fun e w' => e = .returned (.tuple #[rct (max (x - 3) 0) (max (y - 3) 0) (x + a - max (x - 3) 0) (y + c - max (y - 3) 0), .bool true]) ∧ Below wx.heap.size wx w') := hide fun wx => by
    have := meet_any (x - 3) (y - 3) (a + 3) (c + 3) 0 0 W H wx
    rwa [(meet_in hW hH h).1, (meet_in hW hH h).2] at this
  obtain ⟨u, hu⟩ : ∃ u, max (x - 3) 0 = u := ⟨_, rfl⟩
  obtain ⟨v, hv⟩ : ∃ v, max (y - 3) 0 = v := ⟨_, rfl⟩
  obtain ⟨s, hs⟩ : ∃ s, x + a - u = s := ⟨_, rfl⟩
  obtain ⟨t, ht⟩ : ∃ t, y + c - v = t := ⟨_, rfl⟩
  rw [hu, hv, hs, ht] at HM ⊢
  clear hu hv hs ht h hW hH
  obtain ⟨⟨x0, x1⟩, ⟨y0, y1⟩, ⟨a0, a1⟩, ⟨b0, b1⟩⟩ := hrg
  obtain ⟨X, hX⟩ : ∃ X, (w.alloc (.cells #[.int .i64 (x - 3), .int .i64 (y - 3), .int .i64 (a + 3), .int .i64 (c + 3)] 53)).alloc (.cells #[.int .i64 0, .int .i64 0, .int .i64 0, .int .i64 0] 53) = X := ⟨_, rfl⟩
  have BX : Below w.heap.size w X := by rw [← hX]; exact box2 _ _ _
  have zX : X.heap.size = w.heap.size + 2 := by rw [← hX]; simp
  have FX : Four X w.heap.size (x - 3) (y - 3) (a + 3) (c + 3) := by rw [← hX]; exact Four.kept (b := w.heap.size) (cells4 (Below.refl _ _)) (box1 _ _)
  have RX : Four X (w.heap.size + 1) 0 0 0 0 := by rw [← hX]; exact cells4'' (Below.refl _ _)
  have HS : Hid (∀ wx, Below X.heap.size X wx → (wx.cell? ⟨w.heap.size, 0, none⟩ = some (.int .i64 (x - 3)) ∧ wx.cell? ⟨w.heap.size, 1, none⟩ = some (.int .i64 (y - 3)) ∧ wx.cell? ⟨w.heap.size, 2, none⟩ = some (.int .i64 (a + 3)) ∧ wx.cell? ⟨w.heap.size, 3, none⟩ = some (.int .i64 (c + 3))) ∧ (wx.cell? ⟨p, 2, none⟩ = some (.int .i64 0) ∧ wx.cell? ⟨p, 3, none⟩ = some (.int .i64 0) ∧ wx.cell? ⟨p, 4, none⟩ = some (.int .i64 W) ∧ wx.cell? ⟨p, 5, none⟩ = some (.int .i64 H))) := hide fun wx hx =>
    ⟨(FX.kept hx).1, ((hd.upto BX).upto hx).c 2, ((hd.upto BX).upto hx).c 3, ((hd.upto BX).upto hx).c 4, ((hd.upto BX).upto hx).c 5⟩
  go_enter Tryd.func95, Tryd.ntmps95
  go_wp2_with fail
  try rw [hX]
  clear hX hd FX zX
  refine Code.wp_mono (Q := Only (fun a' w' => ∃ (k : Nat) (u6 u23 u24 u25 u26 u27 u28 u29 u30 u31 : Value), (Four w' k u v s t ∧ Below X.heap.size X w') ∧ a' = { tmps := #[ptr p, rct x y a c, undef, ptr w.heap.size, ptr (w.heap.size + 1), ptr k, u6, ptr w.heap.size, ptr w.heap.size, .int .i64 x, .int .i64 (x - 3), ptr w.heap.size, .pointer (some ⟨w.heap.size, 1, none⟩), .int .i64 y, .int .i64 (y - 3), .agg #[.int .i64 (x - 3), .int .i64 (y - 3)], .pointer (some ⟨w.heap.size, 2, none⟩), .int .i64 a, .int .i64 (a + 3), .pointer (some ⟨w.heap.size, 3, none⟩), .int .i64 c, .int .i64 (c + 3), rct (x - 3) (y - 3) (a + 3) (c + 3), u23, u24, u25, u26, u27, u28, u29, u30, u31, undef], defers := [] })) ?rest ?_
  case rest =>
    rintro (_ | _ | _ | _ | _) a' w' hO
    all_goals first | exact hO.elim | skip
    obtain ⟨k, u6, u23, u24, u25, u26, u27, u28, u29, u30, u31, ⟨F1, B1⟩, rfl⟩ := hO
    have R1 := RX.kept B1
    obtain ⟨⟨f0, f1, f2, f3⟩, -, -⟩ := F1
    obtain ⟨⟨r0, r1, r2, r3⟩, ⟨g0, g1, g2, g3⟩, -⟩ := R1
    have HB := hide (bt BX B1)
    clear BX B1 RX HM HS
    go_wp2_with fail
    refine bodyPost_ret (v := rct u v s t) (by simp [results, Tryd.results95, go_sem, r0, r1, r2, r3]) rfl ⟨rfl, ?_⟩
    exact set4 HB.out (by omega)
  refine wp_region_held_drew (S := fun wx => (wx.cell? ⟨w.heap.size, 0, none⟩ = some (.int .i64 (x - 3)) ∧ wx.cell? ⟨w.heap.size, 1, none⟩ = some (.int .i64 (y - 3)) ∧ wx.cell? ⟨w.heap.size, 2, none⟩ = some (.int .i64 (a + 3)) ∧ wx.cell? ⟨w.heap.size, 3, none⟩ = some (.int .i64 (c + 3))) ∧ (wx.cell? ⟨p, 2, none⟩ = some (.int .i64 0) ∧ wx.cell? ⟨p, 3, none⟩ = some (.int .i64 0) ∧ wx.cell? ⟨p, 4, none⟩ = some (.int .i64 W) ∧ wx.cell? ⟨p, 5, none⟩ = some (.int .i64 H))) (by kernel_rfl) (HS.out _ (Below.refl _ _).drew) (fun hHeld => ?_)
  refine wpAnyH_take (i := 0) (v := ?_) rfl (by kernel_rfl) (by kernel_rfl) (by kernel_rfl) (fun _ _ _ h => h.elim) (Or.inl ⟨by rfl, ?_⟩) (by assumption) ?_
  rotate_left
  · intro wx hSw
    try dsimp only at hSw
    go_simp
    try with_reducible rfl
  try simp only [Act.put, List.getElem_toArray, List.getElem_cons_zero, List.getElem_cons_succ, List.setIfInBounds_toArray, List.set_cons_zero, List.set_cons_succ]
  refine wpAnyH_take (i := 1) (v := ?_) rfl (by kernel_rfl) (by kernel_rfl) (by kernel_rfl) (fun _ _ _ h => h.elim) (Or.inl ⟨by rfl, ?_⟩) (by assumption) ?_
  rotate_left
  · intro wx hSw
    try dsimp only at hSw
    go_simp
    try with_reducible rfl
  try simp only [Act.put, List.getElem_toArray, List.getElem_cons_zero, List.getElem_cons_succ, List.setIfInBounds_toArray, List.set_cons_zero, List.set_cons_succ]
  refine wpAnyH_take (i := 2) (v := ?_) rfl (by kernel_rfl) (by kernel_rfl) (by kernel_rfl) (fun _ _ _ h => h.elim) (Or.inl ⟨by rfl, ?_⟩) (by assumption) ?_
  rotate_left
  · intro wx hSw
    try dsimp only at hSw
    go_simp
    try with_reducible rfl
  try simp only [Act.put, List.getElem_toArray, List.getElem_cons_zero, List.getElem_cons_succ, List.setIfInBounds_toArray, List.set_cons_zero, List.set_cons_succ]
  refine wpAnyH_take (i := 3) (v := ?_) rfl (by kernel_rfl) (by kernel_rfl) (by kernel_rfl) (fun _ _ _ h => h.elim) (Or.inl ⟨by rfl, ?_⟩) (by assumption) ?_
  rotate_left
  · intro wx hSw
    try dsimp only at hSw
    go_simp
    try with_reducible rfl
  try simp only [Act.put, List.getElem_toArray, List.getElem_cons_zero, List.getElem_cons_succ, List.setIfInBounds_toArray, List.set_cons_zero, List.set_cons_succ]
  refine wpAnyH_take (i := 4) (v := ?_) rfl (by kernel_rfl) (by kernel_rfl) (by kernel_rfl) (fun _ _ _ h => h.elim) (Or.inl ⟨by rfl, ?_⟩) (by assumption) ?_
  rotate_left
  · intro wx hSw
    try dsimp only at hSw
    go_simp
    try with_reducible rfl
  try simp only [Act.put, List.getElem_toArray, List.getElem_cons_zero, List.getElem_cons_succ, List.setIfInBounds_toArray, List.set_cons_zero, List.set_cons_succ]
  refine wpAnyH_ready (rs := [5, 9]) (by kernel_rfl) (by simp) ?_
  refine AllReadyH.cons rfl (fun K hK => ?_) ?_
  · go_simp
    refine (HM.out _).mono ?_
    rintro e z1 ⟨rfl, s3⟩
    have hX1 : Below X.heap.size X z1 := bt (Below.refl _ _).drew s3
    try go_wp2_with fail
    refine hK.out _ _ ?_ (fun hHeld => ?_)
    · first | exact HS.out _ (Below.refl _ _).drew | exact HS.out _ hX9 | exact HS.out _ hX2 | exact HS.out _ hX1 | exact HS.out _ (bt (Below.refl _ _).drew (box1 _ _))
    clear hK K
    try simp only [Act.put, List.getElem_toArray, List.getElem_cons_zero, List.getElem_cons_succ, List.setIfInBounds_toArray, List.set_cons_zero, List.set_cons_succ]
    refine wpAnyH_take (i := 6) (v := ?_) rfl (by kernel_rfl) (by kernel_rfl) (by kernel_rfl) (fun _ _ _ h => h.elim) (Or.inl ⟨by rfl, ?_⟩) (by assumption) ?_
    rotate_left
    · intro wx hSw
      try dsimp only at hSw
      go_simp
      try with_reducible rfl
    try simp only [Act.put, List.getElem_toArray, List.getElem_cons_zero, List.getElem_cons_succ, List.setIfInBounds_toArray, List.set_cons_zero, List.set_cons_succ]
    refine wpAnyH_take (i := 7) (v := ?_) rfl (by kernel_rfl) (by kernel_rfl) (by kernel_rfl) (fun _ _ _ h => h.elim) (Or.inl ⟨by rfl, ?_⟩) (by assumption) ?_
    rotate_left
    · intro wx hSw
      try dsimp only at hSw
      go_simp
      try with_reducible rfl
    try simp only [Act.put, List.getElem_toArray, List.getElem_cons_zero, List.getElem_cons_succ, List.setIfInBounds_toArray, List.set_cons_zero, List.set_cons_succ]
    refine wpAnyH_take (i := 8) (v := ?_) rfl (by kernel_rfl) (by kernel_rfl) (by kernel_rfl) (fun _ _ _ h => h.elim) (Or.inl ⟨by rfl, ?_⟩) (by assumption) ?_
    rotate_left
    · intro wx hSw
      try dsimp only at hSw
      go_simp
      try with_reducible rfl
    try simp only [Act.put, List.getElem_toArray, List.getElem_cons_zero, List.getElem_cons_succ, List.setIfInBounds_toArray, List.set_cons_zero, List.set_cons_succ]
    refine wpAnyH_ready (rs := [9]) (by kernel_rfl) (by simp) ?_
    refine AllReadyH.cons rfl (fun K hK => ?_) ?_
    · go_simp
      have B9 := box1 z1 (.cells #[.int .i64 0, .int .i64 0, .int .i64 0, .int .i64 0] 53)
      have hX2 := bt hX1 B9
      refine hK.out _ _ ?_ (fun hHeld => ?_)
      · first | exact HS.out _ (Below.refl _ _).drew | exact HS.out _ hX9 | exact HS.out _ hX2 | exact HS.out _ hX1 | exact HS.out _ (bt (Below.refl _ _).drew (box1 _ _))
      clear hK K
      try simp only [Act.put, List.getElem_toArray, List.getElem_cons_zero, List.getElem_cons_succ, List.setIfInBounds_toArray, List.set_cons_zero, List.set_cons_succ]
      refine wpAnyH_ready (rs := [10]) (by kernel_rfl) (by simp) ?_
      refine AllReadyH.cons rfl (fun K hK => ?_) ?_
      · go_simp
        have hX9 : Below X.heap.size X (z1.alloc (.cells #[.int .i64 u, .int .i64 v, .int .i64 s, .int .i64 t] 53)) := bt hX1 (box1 _ _)
        have F9 : Four (z1.alloc (.cells #[.int .i64 u, .int .i64 v, .int .i64 s, .int .i64 t] 53)) z1.heap.size u v s t := cells4 (Below.refl _ _)
        refine hK.out _ _ ?_ (fun hHeld => ?_)
        · first | exact HS.out _ (Below.refl _ _).drew | exact HS.out _ hX9 | exact HS.out _ hX2 | exact HS.out _ hX1 | exact HS.out _ (bt (Below.refl _ _).drew (box1 _ _))
        clear hK K
        try simp only [Act.put, List.getElem_toArray, List.getElem_cons_zero, List.getElem_cons_succ, List.setIfInBounds_toArray, List.set_cons_zero, List.set_cons_succ]
        refine wpAnyH_take (i := 11) (v := ?_) rfl (by kernel_rfl) (by kernel_rfl) (by kernel_rfl) (fun _ _ _ h => h.elim) (Or.inl ⟨by rfl, ?_⟩) (by assumption) ?_
        rotate_left
        · intro wx hSw
          try dsimp only at hSw
          go_simp
          try with_reducible rfl
        try simp only [Act.put, List.getElem_toArray, List.getElem_cons_zero, List.getElem_cons_succ, List.setIfInBounds_toArray, List.set_cons_zero, List.set_cons_succ]
        refine wpAnyH_done (by kernel_rfl) ?_ _
        exact ⟨_, _, _, _, _, _, _, _, _, _, _, ⟨F9, hX9⟩, rfl⟩
      exact AllReadyH.nil
    exact AllReadyH.nil
  refine AllReadyH.cons rfl (fun K hK => ?_) ?_
  · go_simp
    refine hK.out _ _ ?_ (fun hHeld => ?_)
    · first | exact HS.out _ (Below.refl _ _).drew | exact HS.out _ hX9 | exact HS.out _ hX2 | exact HS.out _ hX1 | exact HS.out _ (bt (Below.refl _ _).drew (box1 _ _))
    clear hK K
    try simp only [Act.put, List.getElem_toArray, List.getElem_cons_zero, List.getElem_cons_succ, List.setIfInBounds_toArray, List.set_cons_zero, List.set_cons_succ]
    refine wpAnyH_ready (rs := [5]) (by kernel_rfl) (by simp) ?_
    refine AllReadyH.cons rfl (fun K hK => ?_) ?_
    · go_simp
      refine (HM.out _).mono ?_
      rintro e z1 ⟨rfl, s3⟩
      have hX1 : Below X.heap.size X z1 := bt (bt (Below.refl _ _).drew (box1 _ _)) s3
      try go_wp2_with fail
      refine hK.out _ _ ?_ (fun hHeld => ?_)
      · first | exact HS.out _ (Below.refl _ _).drew | exact HS.out _ hX9 | exact HS.out _ hX2 | exact HS.out _ hX1 | exact HS.out _ (bt (Below.refl _ _).drew (box1 _ _))
      clear hK K
      try simp only [Act.put, List.getElem_toArray, List.getElem_cons_zero, List.getElem_cons_succ, List.setIfInBounds_toArray, List.set_cons_zero, List.set_cons_succ]
      refine wpAnyH_take (i := 6) (v := ?_) rfl (by kernel_rfl) (by kernel_rfl) (by kernel_rfl) (fun _ _ _ h => h.elim) (Or.inl ⟨by rfl, ?_⟩) (by assumption) ?_
      rotate_left
      · intro wx hSw
        try dsimp only at hSw
        go_simp
        try with_reducible rfl
      try simp only [Act.put, List.getElem_toArray, List.getElem_cons_zero, List.getElem_cons_succ, List.setIfInBounds_toArray, List.set_cons_zero, List.set_cons_succ]
      refine wpAnyH_take (i := 7) (v := ?_) rfl (by kernel_rfl) (by kernel_rfl) (by kernel_rfl) (fun _ _ _ h => h.elim) (Or.inl ⟨by rfl, ?_⟩) (by assumption) ?_
      rotate_left
      · intro wx hSw
        try dsimp only at hSw
        go_simp
        try with_reducible rfl
      try simp only [Act.put, List.getElem_toArray, List.getElem_cons_zero, List.getElem_cons_succ, List.setIfInBounds_toArray, List.set_cons_zero, List.set_cons_succ]
      refine wpAnyH_take (i := 8) (v := ?_) rfl (by kernel_rfl) (by kernel_rfl) (by kernel_rfl) (fun _ _ _ h => h.elim) (Or.inl ⟨by rfl, ?_⟩) (by assumption) ?_
      rotate_left
      · intro wx hSw
        try dsimp only at hSw
        go_simp
        try with_reducible rfl
      try simp only [Act.put, List.getElem_toArray, List.getElem_cons_zero, List.getElem_cons_succ, List.setIfInBounds_toArray, List.set_cons_zero, List.set_cons_succ]
      refine wpAnyH_ready (rs := [10]) (by kernel_rfl) (by simp) ?_
      refine AllReadyH.cons rfl (fun K hK => ?_) ?_
      · have F5 : Four z1 X.heap.size 0 0 0 0 := cells4 (below_undrew s3)
        obtain ⟨⟨k0, k1, k2, k3⟩, ⟨l0, l1, l2, l3⟩, lz⟩ := id F5
        go_simp
        have hX9 := set4 (a := .int .i64 u) (b := .int .i64 v) (c := .int .i64 s) (d := .int .i64 t) (n := X.heap.size) hX1 (Nat.le_refl _)
        have F9 := F5.set u v s t
        refine hK.out _ _ ?_ (fun hHeld => ?_)
        · first | exact HS.out _ (Below.refl _ _).drew | exact HS.out _ hX9 | exact HS.out _ hX2 | exact HS.out _ hX1 | exact HS.out _ (bt (Below.refl _ _).drew (box1 _ _))
        clear hK K
        try simp only [Act.put, List.getElem_toArray, List.getElem_cons_zero, List.getElem_cons_succ, List.setIfInBounds_toArray, List.set_cons_zero, List.set_cons_succ]
        refine wpAnyH_take (i := 11) (v := ?_) rfl (by kernel_rfl) (by kernel_rfl) (by kernel_rfl) (fun _ _ _ h => h.elim) (Or.inl ⟨by rfl, ?_⟩) (by assumption) ?_
        rotate_left
        · intro wx hSw
          try dsimp only at hSw
          go_simp
          try with_reducible rfl
        try simp only [Act.put, List.getElem_toArray, List.getElem_cons_zero, List.getElem_cons_succ, List.setIfInBounds_toArray, List.set_cons_zero, List.set_cons_succ]
        refine wpAnyH_done (by kernel_rfl) ?_ _
        exact ⟨_, _, _, _, _, _, _, _, _, _, _, ⟨F9, hX9⟩, rfl⟩
      exact AllReadyH.nil
    exact AllReadyH.nil
  exact AllReadyH.nil
end Go.Proofs.YtoheibfijpdmfaaDoor
