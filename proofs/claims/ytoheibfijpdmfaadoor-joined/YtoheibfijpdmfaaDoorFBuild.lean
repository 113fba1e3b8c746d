/-
  The cells at which the greatest shape would have a tile of a rectangle. A range over a function that itself ranges over another one: what such a function promises, and the loop over it. Around of the package: it ranges over the neighbours, and tells those that may be stepped to. A rectangle's cells gone through, each by its number; a list of bools gone through from its end. A row of marks in memory. A region that draws its order and makes memory, in a round of a loop over a function: what the walk outside a fence gives is enough. A region that draws its order in a round of a loop over a function, one of its operations handing an item on (a yield): what only reads in every world that meets a condition is taken ahead. The cells whose clearance an edit can turn, gone through from the last one back. reckon: the clearances of the reached cells reckoned anew, from the last one back. New: a class's field, all clearances of the world as it is.
-/
import Derived.Test.YtoheibfijpdmfaaDoorMeet
import Derived.Test.YtoheibfijpdmfaaDoorFld
import Derived.Test.YtoheibfijpdmfaaDoorRaze2
import Derived.Test.YtoheibfijpdmfaaDoorCellsSeq
import Derived.Test.YtoheibfijpdmfaaDoorLatIn
import Derived.Deep.RegionHeld
import Derived.RangeFuncCalls
import Derived.Test.YtoheibfijpdmfaaDoorStand
import Derived.OrdersHeld
import Derived.OrdersIn
set_option linter.unusedSimpArgs false
namespace Go.Proofs.YtoheibfijpdmfaaDoor
open Go.RowKit
set_option linter.unusedVariables false
theorem meet_in {W H x y a b : Int} (hW : gs W 128 = true) (hH : gs H 128 = true) (h : wi x y a b 0 0 W H = true) :
    mtB (x - 3) (y - 3) (a + 3) (b + 3) 0 0 W H = true ∧ mtV (x - 3) (y - 3) (a + 3) (b + 3) 0 0 W H = rct (max (x - 3) 0) (max (y - 3) 0) (x + a - max (x - 3) 0) (y + b - max (y - 3) 0) := by
  simp only [gs, decide_eq_true_eq] at hW hH
  simp only [wi, Bool.and_eq_true] at h
  obtain ⟨h0, h1, h2⟩ := h
  have m0 := (may_iff _ _ _ _).1 h0
  have m1 := (has_iff _ _ _ _ _ _).1 h1
  have m2 := (has_iff _ _ _ _ _ _).1 h2
  have hb : mtB (x - 3) (y - 3) (a + 3) (b + 3) 0 0 W H = true := by
    simp only [mtB, Bool.and_eq_true, decide_eq_true_eq, may_iff]
    omega
  refine ⟨hb, ?_⟩
  rw [mtV_yes hb]
  unfold span
  have e1 : min (x - 3 + (a + 3) - 1) (0 + W - 1) - max (x - 3) 0 + 1 = x + a - max (x - 3) 0 := by omega
  have e2 : min (y - 3 + (b + 3) - 1) (0 + H - 1) - max (y - 3) 0 + 1 = y + b - max (y - 3) 0 := by omega
  rw [e1, e2]
set_option maxRecDepth 100000 in
set_option maxHeartbeats 4000000 in
theorem reach_any {w : World} {p q b n : Nat} {cl ep W H : Int} (x y a c : Int) (hd : Fd w p q cl W H b n ep) (hW : gs W 128 = true) (hH : gs H 128 = true) (h : wi x y a c 0 0 W H = true) :
    Calls Tryd.prog 95 #[ptr p, rct x y a c] w fun e w' => e = .returned (rct (max (x - 3) 0) (max (y - 3) 0) (x + a - max (x - 3) 0) (y + c - max (y - 3) 0)) ∧ Below w.heap.size w w' := by
  have hrg : (0 ≤ x ∧ x ≤ 128) ∧ (0 ≤ y ∧ y ≤ 128) ∧ (1 ≤ a ∧ a ≤ 128) ∧ (1 ≤ c ∧ c ≤ 128) := by
    simp only [gs, decide_eq_true_eq] at hW hH
    simp only [wi, Bool.and_eq_true] at h
    obtain ⟨h0, h1, h2⟩ := h
    have m0 := (may_iff _ _ _ _).1 h0
    have m1 := (has_iff _ _ _ _ _ _).1 h1
    have m2 := (has_iff _ _ _ _ _ _).1 h2
    omega
  have HM : Hid (∀ wx, Calls Tryd.prog 101 #[rct (x - 3) (y - 3) (a + 3) (c + 3), rct 0 0 W H] wx fun e w' => e = .returned (.tuple #[rct (max (x - 3) 0) (max (y - 3) 0) (x + a - max (x - 3) 0) (y + c - max (y - 3) 0), .bool true]) ∧ Below wx.heap.size wx w') := hide fun wx => by
    have := meet_any (x - 3) (y - 3) (a + 3) (c + 3) 0 0 W H wx
    rwa [(meet_in hW hH h).1, (meet_in hW hH h).2] at this
  obtain ⟨u, hu⟩ : ∃ u, max (x - 3) 0 = u := ⟨_, rfl⟩
  obtain ⟨v, hv⟩ : ∃ v, max (y - 3) 0 = v := ⟨_, rfl⟩
  obtain ⟨s, hs⟩ : ∃ s, x + a - u = s := ⟨_, rfl⟩
  obtain ⟨t, ht⟩ : ∃ t, y + c - v = t := ⟨_, rfl⟩
  rw [hu, hv, hs, ht] at HM ⊢
  clear hu hv hs ht h hW hH
  obtain ⟨⟨x0, x1⟩, ⟨y0, y1⟩, ⟨a0, a1⟩, ⟨b0, b1⟩⟩ := hrg
  obtain ⟨X, hX⟩ : ∃ X, (w.alloc (.cells #[.int .i64 (x - 3), .int .i64 (y - 3), .int .i64 (a + 3), .int .i64 (c + 3)] 53)).alloc (.cells #[.int .i64 0, .int .i64 0, .int .i64 0, .int .i64 0] 53) = X := ⟨_, rfl⟩
  have BX : Below w.heap.size w X := by rw [← hX]; exact box2 _ _ _
  have zX : X.heap.size = w.heap.size + 2 := by rw [← hX]; simp
  have FX : Four X w.heap.size (x - 3) (y - 3) (a + 3) (c + 3) := by rw [← hX]; exact Four.kept (b := w.heap.size) (cells4 (Below.refl _ _)) (box1 _ _)
  have RX : Four X (w.heap.size + 1) 0 0 0 0 := by rw [← hX]; exact cells4'' (Below.refl _ _)
  have HS : Hid (∀ wx, Below X.heap.size X wx → (wx.cell? ⟨w.heap.size, 0, none⟩ = some (.int .i64 (x - 3)) ∧ wx.cell? ⟨w.heap.size, 1, none⟩ = some (.int .i64 (y - 3)) ∧ wx.cell? ⟨w.heap.size, 2, none⟩ = some (.int .i64 (a + 3)) ∧ wx.cell? ⟨w.heap.size, 3, none⟩ = some (.int .i64 (c + 3))) ∧ (wx.cell? ⟨p, 2, none⟩ = some (.int .i64 0) ∧ wx.cell? ⟨p, 3, none⟩ = some (.int .i64 0) ∧ wx.cell? ⟨p, 4, none⟩ = some (.int .i64 W) ∧ wx.cell? ⟨p, 5, none⟩ = some (.int .i64 H))) := hide fun wx hx =>
    ⟨(FX.kept hx).1, ((hd.upto BX).upto hx).c 2, ((hd.upto BX).upto hx).c 3, ((hd.upto BX).upto hx).c 4, ((hd.upto BX).upto hx).c 5⟩
  go_enter Tryd.func95, Tryd.ntmps95
  go_wp2_with fail
  try rw [hX]
  clear hX hd FX zX
  refine Code.wp_mono (Q := Only (fun a' w' => ∃ (k : Nat) (u6 u23 u24 u25 u26 u27 u28 u29 u30 u31 : Value), (Four w' k u v s t ∧ Below X.heap.size X w') ∧ a' = { tmps := #[ptr p, rct x y a c, undef, ptr w.heap.size, ptr (w.heap.size + 1), ptr k, u6, ptr w.heap.size, ptr w.heap.size, .int .i64 x, .int .i64 (x - 3), ptr w.heap.size, .pointer (some ⟨w.heap.size, 1, none⟩), .int .i64 y, .int .i64 (y - 3), .agg #[.int .i64 (x - 3), .int .i64 (y - 3)], .pointer (some ⟨w.heap.size, 2, none⟩), .int .i64 a, .int .i64 (a + 3), .pointer (some ⟨w.heap.size, 3, none⟩), .int .i64 c, .int .i64 (c + 3), rct (x - 3) (y - 3) (a + 3) (c + 3), u23, u24, u25, u26, u27, u28, u29, u30, u31, undef], defers := [] })) ?rest ?_
  case rest =>
    rintro (_ | _ | _ | _ | _) a' w' hO
    all_goals first | exact hO.elim | skip
    obtain ⟨k, u6, u23, u24, u25, u26, u27, u28, u29, u30, u31, ⟨F1, B1⟩, rfl⟩ := hO
    have R1 := RX.kept B1
    obtain ⟨⟨f0, f1, f2, f3⟩, -, -⟩ := F1
    obtain ⟨⟨r0, r1, r2, r3⟩, ⟨g0, g1, g2, g3⟩, -⟩ := R1
    have HB := hide (bt BX B1)
    clear BX B1 RX HM HS
    go_wp2_with fail
    refine bodyPost_ret (v := rct u v s t) (by simp [results, Tryd.results95, go_sem, r0, r1, r2, r3]) rfl ⟨rfl, ?_⟩
    exact set4 HB.out (by omega)
  refine wp_region_held_drew (S := fun wx => (wx.cell? ⟨w.heap.size, 0, none⟩ = some (.int .i64 (x - 3)) ∧ wx.cell? ⟨w.heap.size, 1, none⟩ = some (.int .i64 (y - 3)) ∧ wx.cell? ⟨w.heap.size, 2, none⟩ = some (.int .i64 (a + 3)) ∧ wx.cell? ⟨w.heap.size, 3, none⟩ = some (.int .i64 (c + 3))) ∧ (wx.cell? ⟨p, 2, none⟩ = some (.int .i64 0) ∧ wx.cell? ⟨p, 3, none⟩ = some (.int .i64 0) ∧ wx.cell? ⟨p, 4, none⟩ = some (.int .i64 W) ∧ wx.cell? ⟨p, 5, none⟩ = some (.int .i64 H))) (by kernel_rfl) (HS.out _ (Below.refl _ _).drew) (fun hHeld => ?_)
  refine wpAnyH_take (i := 0) (v := ?_) rfl (by kernel_rfl) (by kernel_rfl) (by kernel_rfl) (fun _ _ _ h => h.elim) (Or.inl ⟨by rfl, ?_⟩) (by assumption) ?_
  rotate_left
  · intro wx hSw
    try dsimp only at hSw
    go_simp
    try with_reducible rfl
  try simp only [Act.put, List.getElem_toArray, List.getElem_cons_zero, List.getElem_cons_succ, List.setIfInBounds_toArray, List.set_cons_zero, List.set_cons_succ]
  refine wpAnyH_take (i := 1) (v := ?_) rfl (by kernel_rfl) (by kernel_rfl) (by kernel_rfl) (fun _ _ _ h => h.elim) (Or.inl ⟨by rfl, ?_⟩) (by assumption) ?_
  rotate_left
  · intro wx hSw
    try dsimp only at hSw
    go_simp
    try with_reducible rfl
  try simp only [Act.put, List.getElem_toArray, List.getElem_cons_zero, List.getElem_cons_succ, List.setIfInBounds_toArray, List.set_cons_zero, List.set_cons_succ]
  refine wpAnyH_take (i := 2) (v := ?_) rfl (by kernel_rfl) (by kernel_rfl) (by kernel_rfl) (fun _ _ _ h => h.elim) (Or.inl ⟨by rfl, ?_⟩) (by assumption) ?_
  rotate_left
  · intro wx hSw
    try dsimp only at hSw
    go_simp
    try with_reducible rfl
  try simp only [Act.put, List.getElem_toArray, List.getElem_cons_zero, List.getElem_cons_succ, List.setIfInBounds_toArray, List.set_cons_zero, List.set_cons_succ]
  refine wpAnyH_take (i := 3) (v := ?_) rfl (by kernel_rfl) (by kernel_rfl) (by kernel_rfl) (fun _ _ _ h => h.elim) (Or.inl ⟨by rfl, ?_⟩) (by assumption) ?_
  rotate_left
  · intro wx hSw
    try dsimp only at hSw
    go_simp
    try with_reducible rfl
  try simp only [Act.put, List.getElem_toArray, List.getElem_cons_zero, List.getElem_cons_succ, List.setIfInBounds_toArray, List.set_cons_zero, List.set_cons_succ]
  refine wpAnyH_take (i := 4) (v := ?_) rfl (by kernel_rfl) (by kernel_rfl) (by kernel_rfl) (fun _ _ _ h => h.elim) (Or.inl ⟨by rfl, ?_⟩) (by assumption) ?_
  rotate_left
  · intro wx hSw
    try dsimp only at hSw
    go_simp
    try with_reducible rfl
  try simp only [Act.put, List.getElem_toArray, List.getElem_cons_zero, List.getElem_cons_succ, List.setIfInBounds_toArray, List.set_cons_zero, List.set_cons_succ]
  refine wpAnyH_ready (rs := [5, 9]) (by kernel_rfl) (by simp) ?_
  refine AllReadyH.cons rfl (fun K hK => ?_) ?_
  · go_simp
    refine (HM.out _).mono ?_
    rintro e z1 ⟨rfl, s3⟩
    have hX1 : Below X.heap.size X z1 := bt (Below.refl _ _).drew s3
    try go_wp2_with fail
    refine hK.out _ _ ?_ (fun hHeld => ?_)
    · first | exact HS.out _ (Below.refl _ _).drew | exact HS.out _ hX9 | exact HS.out _ hX2 | exact HS.out _ hX1 | exact HS.out _ (bt (Below.refl _ _).drew (box1 _ _))
    clear hK K
    try simp only [Act.put, List.getElem_toArray, List.getElem_cons_zero, List.getElem_cons_succ, List.setIfInBounds_toArray, List.set_cons_zero, List.set_cons_succ]
    refine wpAnyH_take (i := 6) (v := ?_) rfl (by kernel_rfl) (by kernel_rfl) (by kernel_rfl) (fun _ _ _ h => h.elim) (Or.inl ⟨by rfl, ?_⟩) (by assumption) ?_
    rotate_left
    · intro wx hSw
      try dsimp only at hSw
      go_simp
      try with_reducible rfl
    try simp only [Act.put, List.getElem_toArray, List.getElem_cons_zero, List.getElem_cons_succ, List.setIfInBounds_toArray, List.set_cons_zero, List.set_cons_succ]
    refine wpAnyH_take (i := 7) (v := ?_) rfl (by kernel_rfl) (by kernel_rfl) (by kernel_rfl) (fun _ _ _ h => h.elim) (Or.inl ⟨by rfl, ?_⟩) (by assumption) ?_
    rotate_left
    · intro wx hSw
      try dsimp only at hSw
      go_simp
      try with_reducible rfl
    try simp only [Act.put, List.getElem_toArray, List.getElem_cons_zero, List.getElem_cons_succ, List.setIfInBounds_toArray, List.set_cons_zero, List.set_cons_succ]
    refine wpAnyH_take (i := 8) (v := ?_) rfl (by kernel_rfl) (by kernel_rfl) (by kernel_rfl) (fun _ _ _ h => h.elim) (Or.inl ⟨by rfl, ?_⟩) (by assumption) ?_
    rotate_left
    · intro wx hSw
      try dsimp only at hSw
      go_simp
      try with_reducible rfl
    try simp only [Act.put, List.getElem_toArray, List.getElem_cons_zero, List.getElem_cons_succ, List.setIfInBounds_toArray, List.set_cons_zero, List.set_cons_succ]
    refine wpAnyH_ready (rs := [9]) (by kernel_rfl) (by simp) ?_
    refine AllReadyH.cons rfl (fun K hK => ?_) ?_
    · go_simp
      have B9 := box1 z1 (.cells #[.int .i64 0, .int .i64 0, .int .i64 0, .int .i64 0] 53)
      have hX2 := bt hX1 B9
      refine hK.out _ _ ?_ (fun hHeld => ?_)
      · first | exact HS.out _ (Below.refl _ _).drew | exact HS.out _ hX9 | exact HS.out _ hX2 | exact HS.out _ hX1 | exact HS.out _ (bt (Below.refl _ _).drew (box1 _ _))
      clear hK K
      try simp only [Act.put, List.getElem_toArray, List.getElem_cons_zero, List.getElem_cons_succ, List.setIfInBounds_toArray, List.set_cons_zero, List.set_cons_succ]
      refine wpAnyH_ready (rs := [10]) (by kernel_rfl) (by simp) ?_
      refine AllReadyH.cons rfl (fun K hK => ?_) ?_
      · go_simp
        have hX9 : Below X.heap.size X (z1.alloc (.cells #[.int .i64 u, .int .i64 v, .int .i64 s, .int .i64 t] 53)) := bt hX1 (box1 _ _)
        have F9 : Four (z1.alloc (.cells #[.int .i64 u, .int .i64 v, .int .i64 s, .int .i64 t] 53)) z1.heap.size u v s t := cells4 (Below.refl _ _)
        refine hK.out _ _ ?_ (fun hHeld => ?_)
        · first | exact HS.out _ (Below.refl _ _).drew | exact HS.out _ hX9 | exact HS.out _ hX2 | exact HS.out _ hX1 | exact HS.out _ (bt (Below.refl _ _).drew (box1 _ _))
        clear hK K
        try simp only [Act.put, List.getElem_toArray, List.getElem_cons_zero, List.getElem_cons_succ, List.setIfInBounds_toArray, List.set_cons_zero, List.set_cons_succ]
        refine wpAnyH_take (i := 11) (v := ?_) rfl (by kernel_rfl) (by kernel_rfl) (by kernel_rfl) (fun _ _ _ h => h.elim) (Or.inl ⟨by rfl, ?_⟩) (by assumption) ?_
        rotate_left
        · intro wx hSw
          try dsimp only at hSw
          go_simp
          try with_reducible rfl
        try simp only [Act.put, List.getElem_toArray, List.getElem_cons_zero, List.getElem_cons_succ, List.setIfInBounds_toArray, List.set_cons_zero, List.set_cons_succ]
        refine wpAnyH_done (by kernel_rfl) ?_ _
        exact ⟨_, _, _, _, _, _, _, _, _, _, _, ⟨F9, hX9⟩, rfl⟩
      exact AllReadyH.nil
    exact AllReadyH.nil
  refine AllReadyH.cons rfl (fun K hK => ?_) ?_
  · go_simp
    refine hK.out _ _ ?_ (fun hHeld => ?_)
    · first | exact HS.out _ (Below.refl _ _).drew | exact HS.out _ hX9 | exact HS.out _ hX2 | exact HS.out _ hX1 | exact HS.out _ (bt (Below.refl _ _).drew (box1 _ _))
    clear hK K
    try simp only [Act.put, List.getElem_toArray, List.getElem_cons_zero, List.getElem_cons_succ, List.setIfInBounds_toArray, List.set_cons_zero, List.set_cons_succ]
    refine wpAnyH_ready (rs := [5]) (by kernel_rfl) (by simp) ?_
    refine AllReadyH.cons rfl (fun K hK => ?_) ?_
    · go_simp
      refine (HM.out _).mono ?_
      rintro e z1 ⟨rfl, s3⟩
      have hX1 : Below X.heap.size X z1 := bt (bt (Below.refl _ _).drew (box1 _ _)) s3
      try go_wp2_with fail
      refine hK.out _ _ ?_ (fun hHeld => ?_)
      · first | exact HS.out _ (Below.refl _ _).drew | exact HS.out _ hX9 | exact HS.out _ hX2 | exact HS.out _ hX1 | exact HS.out _ (bt (Below.refl _ _).drew (box1 _ _))
      clear hK K
      try simp only [Act.put, List.getElem_toArray, List.getElem_cons_zero, List.getElem_cons_succ, List.setIfInBounds_toArray, List.set_cons_zero, List.set_cons_succ]
      refine wpAnyH_take (i := 6) (v := ?_) rfl (by kernel_rfl) (by kernel_rfl) (by kernel_rfl) (fun _ _ _ h => h.elim) (Or.inl ⟨by rfl, ?_⟩) (by assumption) ?_
      rotate_left
      · intro wx hSw
        try dsimp only at hSw
        go_simp
        try with_reducible rfl
      try simp only [Act.put, List.getElem_toArray, List.getElem_cons_zero, List.getElem_cons_succ, List.setIfInBounds_toArray, List.set_cons_zero, List.set_cons_succ]
      refine wpAnyH_take (i := 7) (v := ?_) rfl (by kernel_rfl) (by kernel_rfl) (by kernel_rfl) (fun _ _ _ h => h.elim) (Or.inl ⟨by rfl, ?_⟩) (by assumption) ?_
      rotate_left
      · intro wx hSw
        try dsimp only at hSw
        go_simp
        try with_reducible rfl
      try simp only [Act.put, List.getElem_toArray, List.getElem_cons_zero, List.getElem_cons_succ, List.setIfInBounds_toArray, List.set_cons_zero, List.set_cons_succ]
      refine wpAnyH_take (i := 8) (v := ?_) rfl (by kernel_rfl) (by kernel_rfl) (by kernel_rfl) (fun _ _ _ h => h.elim) (Or.inl ⟨by rfl, ?_⟩) (by assumption) ?_
      rotate_left
      · intro wx hSw
        try dsimp only at hSw
        go_simp
        try with_reducible rfl
      try simp only [Act.put, List.getElem_toArray, List.getElem_cons_zero, List.getElem_cons_succ, List.setIfInBounds_toArray, List.set_cons_zero, List.set_cons_succ]
      refine wpAnyH_ready (rs := [10]) (by kernel_rfl) (by simp) ?_
      refine AllReadyH.cons rfl (fun K hK => ?_) ?_
      · have F5 : Four z1 X.heap.size 0 0 0 0 := cells4 (below_undrew s3)
        obtain ⟨⟨k0, k1, k2, k3⟩, ⟨l0, l1, l2, l3⟩, lz⟩ := id F5
        go_simp
        have hX9 := set4 (a := .int .i64 u) (b := .int .i64 v) (c := .int .i64 s) (d := .int .i64 t) (n := X.heap.size) hX1 (Nat.le_refl _)
        have F9 := F5.set u v s t
        refine hK.out _ _ ?_ (fun hHeld => ?_)
        · first | exact HS.out _ (Below.refl _ _).drew | exact HS.out _ hX9 | exact HS.out _ hX2 | exact HS.out _ hX1 | exact HS.out _ (bt (Below.refl _ _).drew (box1 _ _))
        clear hK K
        try simp only [Act.put, List.getElem_toArray, List.getElem_cons_zero, List.getElem_cons_succ, List.setIfInBounds_toArray, List.set_cons_zero, List.set_cons_succ]
        refine wpAnyH_take (i := 11) (v := ?_) rfl (by kernel_rfl) (by kernel_rfl) (by kernel_rfl) (fun _ _ _ h => h.elim) (Or.inl ⟨by rfl, ?_⟩) (by assumption) ?_
        rotate_left
        · intro wx hSw
          try dsimp only at hSw
          go_simp
          try with_reducible rfl
        try simp only [Act.put, List.getElem_toArray, List.getElem_cons_zero, List.getElem_cons_succ, List.setIfInBounds_toArray, List.set_cons_zero, List.set_cons_succ]
        refine wpAnyH_done (by kernel_rfl) ?_ _
        exact ⟨_, _, _, _, _, _, _, _, _, _, _, ⟨F9, hX9⟩, rfl⟩
      exact AllReadyH.nil
    exact AllReadyH.nil
  exact AllReadyH.nil
end Go.Proofs.YtoheibfijpdmfaaDoor
namespace Go.Proofs.YtoheibfijpdmfaaDoor
open Go.RowKit Go.Shelf
set_option linter.unusedVariables false
/-- What lay from block B on lies as it lay. -/
def Keep (B : Nat) (W W' : World) : Prop := W.heap.size ≤ W'.heap.size ∧ ∀ k, B ≤ k → k < W.heap.size → W'.heap[k]? = W.heap[k]?
theorem Keep.refl (B : Nat) (W : World) : Keep B W W := ⟨Nat.le_refl _, fun _ _ _ => rfl⟩
theorem Keep.trans {B : Nat} {X Y Z : World} (h : Keep B X Y) (k : Keep B Y Z) : Keep B X Z := ⟨Nat.le_trans h.1 k.1, fun i hi hl => (k.2 i hi (Nat.lt_of_lt_of_le hl h.1)).trans (h.2 i hi hl)⟩
theorem Keep.mono {B C : Nat} {X Y : World} (h : Keep B X Y) (hB : B ≤ C) : Keep C X Y := ⟨h.1, fun i hi => h.2 i (Nat.le_trans hB hi)⟩
theorem Keep.at {B : Nat} {X Y : World} (h : Keep B X Y) {k : Nat} {o : Obj} (hB : B ≤ k) (hk : X.heap[k]? = some o) : Y.heap[k]? = some o := (h.2 k hB (Array.getElem?_eq_some_iff.1 hk).1).trans hk
theorem Keep.from {B : Nat} {X Y : World} (h : Keep B X Y) : KeepsFrom B X Y := ⟨h.1, fun k o hB hk _ => h.at hB hk⟩
theorem Keep.of_below {B : Nat} {X Y : World} (h : Below X.heap.size X Y) : Keep B X Y := ⟨h.size, fun k _ hk => h.block k hk⟩
theorem Keep.put {B : Nat} (X : World) {l : Nat} (o : Obj) (hl : l < B) : Keep B X (X.putObj l o) := ⟨by simp, fun k hB _ => World.putObj_heap_other (by omega)⟩
theorem Keep.set {B : Nat} (X : World) {p : Addr} (u : Value) (hp : p.block < B) : Keep B X (X.setCell p u) := ⟨by simp [World.setCell], fun k hB _ => Below.heap_setCell _ _ _ _ (by omega)⟩
/-- What an iterator promises that may keep records of its own: the rounds leave what it has laid. -/
def SeqOwn {α : Type} (n : Nat) (g : Nat) (lb : Array Value) (encs : α → Array Value) (Kp : World → World → Prop) (S Sp : List α → Prop) (N : Nat) (w : World) : Prop :=
  ∀ (l : Nat) (J Jx : List α → World → Prop) (W : World), Below w.heap.size w W → OwnFrom W.heap.size J → OwnFrom W.heap.size Jx →
    (∀ pre x X, J pre X → pre.length < N → YieldAt Fence.wide (n - 1) Tryd.prog l (encs x) X fun e Y =>
      Keep W.heap.size X Y ∧ ((e = .returned (.bool true) ∧ J (pre ++ [x]) Y ∧ Kp X Y) ∨ (e = .returned (.bool false) ∧ Jx (pre ++ [x]) Y ∧ Kp X Y))) →
    J [] W →
    CallsIn Fence.wide n Tryd.prog g (#[.func (.yield l) #[] #[]] ++ lb) W fun e Y => (∃ v, e = .returned v) ∧ ((∃ xs, S xs ∧ J xs Y) ∨ (∃ pre, Sp pre ∧ Jx pre Y))
def nestPost {α : Type} (B : Nat) (Kp : World → World → Prop) (I Ix : List α → World → Prop) (xs : List α) (X : World) : Exit → Act → World → Prop
  | .normal, _, Y => Keep B X Y ∧ Kp X Y ∧ I xs Y
  | .ret, _, Y => Keep B X Y ∧ Kp X Y ∧ Ix xs Y
  | _, _, _ => False
theorem range_nest {α : Type} {n : Nat} {g : Operand} {ps : Array Tmp} {assign body : Code} {Q : Exit → Act → World → Prop} {a : Act} {w w0 : World} (h1 : 1 ≤ n) {gf : Nat} {lb : Array Value}
    (hg : a.eval g = .func (.func gf) #[] lb) (eg : ∀ args w, (callFunc gf args).run Tryd.prog w = .ok (.enter gf args) w)
    {encs : α → Array Value} {Kp : World → World → Prop} {S Sp : List α → Prop} {N : Nat} (hseq : SeqOwn (n - 1) gf lb encs Kp S Sp N w0)
    (hKt : ∀ {A B C : World}, Kp A B → Kp B C → Kp A C) (hKb : ∀ (W : World) (l : Nat) (o o' : Obj), w.heap.size ≤ l → W.heap[l]? = some o → o.isCells = false → o.isWalk = false → Kp W (W.putObj l o'))
    (hb0 : Below w0.heap.size w0 w) (hps : ∀ x, (encs x).size = ps.size)
    (I Ix : List α → World → Prop) (hI : OwnFrom w.heap.size I) (hIx : OwnFrom w.heap.size Ix) (h0 : I [] w) (Ax : α → Act → World → Prop) (hAx : ∀ x a', OwnFrom w.heap.size (fun (_ : Unit) W => Ax x a' W))
    (hassign : ∀ (l : Nat) (pre : List α) (x : α) (W : World) (K : Act → World → Prop), I pre W → (∀ a' W', Keep w.heap.size W W' → Kp W W' → I pre W' → Ax x a' W' → K a' W') →
      assign.wpIn (Fence.wide.inRound l) (n - 1 - 1) Tryd.prog (Exit.then K (fun _ _ _ => False)) { tmps := (ps.zip (encs x)).foldl (fun t (p, v) => t.setIfInBounds p v) a.tmps, defers := [] } W)
    (hbody : ∀ (l : Nat) (pre : List α) (x : α) (a' : Act) (W : World), w.heap.size ≤ l → I pre W → Ax x a' W → pre.length < N → body.wpIn (Fence.wide.inRound l) (n - 1 - 1) Tryd.prog (nestPost w.heap.size Kp I Ix (pre ++ [x]) W) a' W)
    (hdone : ∀ (D : Nat) (xs : List α) (W : World), w.heap.size ≤ D → S xs → I xs W → W.heap[D]? = some (.deferred (some [])) → Q .normal { a with defers := { target := .collected D, args := #[] } :: a.defers } W)
    (hstop : ∀ (D : Nat) (pre : List α) (W : World), w.heap.size ≤ D → Sp pre → Ix pre W → W.heap[D]? = some (.deferred (some [])) → Code.ret.wpIn Fence.wide n Tryd.prog Q { a with defers := { target := .collected D, args := #[] } :: a.defers } W) :
    (Code.rangeFunc g ps assign body).wpIn Fence.wide n Tryd.prog Q a w := by
  refine wpIn_rangeFunc (fun fn hfn => ?_)
  generalize hrc : (fun st pe => ({ state := st, pending := pe, fn := fn, tmps := a.tmps, params := ps, assign := assign, body := body, defers := w.heap.size } : Loop)) = rc
  generalize hV : (w.alloc (.deferred (some []))).alloc (.loop (rc .ready none)) = V
  have zV : V.heap.size = w.heap.size + 1 + 1 := by rw [← hV]; simp
  have bV : Below w.heap.size w V := by rw [← hV]; exact box2 _ _ _
  have lV : V.heap[w.heap.size + 1]? = some (.loop (rc .ready none)) := by rw [← hV]; have := World.alloc_heap_new (w.alloc (.deferred (some []))) (.loop (rc .ready none)); rwa [World.size_alloc] at this
  have dV : V.heap[w.heap.size]? = some (.deferred (some [])) := by rw [← hV]; exact (Below.heap_alloc _ _ _ (by simp)).trans (World.alloc_heap_new w _)
  have iV : I [] V := hI _ _ _ none h0 (below_grown bV) (fun r e => by cases e)
  -- the records, in whatever state the loop is
  let Bk : LoopState → Option Code → World → Prop := fun st pe X => X.heap[w.heap.size + 1]? = some (.loop (rc st pe)) ∧ X.heap[w.heap.size]? = some (.deferred (some []))
  have ownB : ∀ st pe, OwnFrom V.heap.size (fun (_ : List α) X => Bk st pe X) := fun st pe s X Y row hs hgr hr =>
    ⟨(hgr.block _ (Array.getElem?_eq_some_iff.1 hs.1).1 (fun e => by have := (hr _ e.symm).1; omega)).trans hs.1, (hgr.block _ (Array.getElem?_eq_some_iff.1 hs.2).1 (fun e => by have := (hr _ e.symm).1; omega)).trans hs.2⟩
  have wide : ∀ {J : List α → World → Prop}, OwnFrom w.heap.size J → OwnFrom V.heap.size J := fun h s X Y row hs hgr hr => h s X Y row hs hgr (fun r e => ⟨by have := (hr r e).1; omega, (hr r e).2⟩)
  have turn : ∀ {X : World} {st pe} (st' : LoopState) (pe' : Option Code), Bk st pe X → Bk st' pe' (X.putObj (w.heap.size + 1) (.loop (rc st' pe'))) := fun st' pe' h =>
    ⟨World.putObj_heap_same (Array.getElem?_eq_some_iff.1 h.1).1, (World.putObj_heap_other (by omega)).trans h.2⟩
  refine ⟨w.heap.size + 1, [{ target := .collected w.heap.size, args := #[] }], V, { target := .fn (.func gf) lb, args := #[.func (.yield (w.heap.size + 1)) #[] #[]] }, V, gf, #[.func (.yield (w.heap.size + 1)) #[] #[]] ++ lb, V, ?_, ?_, fun _ _ => trivial, ?_, fun _ => h1, ?_⟩
  · rw [← hV, ← hrc]; exact run_enterLoop_outer _ _ _ _ _
  · simp only [resolve, hg]; simp [go_sem]
  · simp [invoke, go_sem, eg]
  refine (hseq (w.heap.size + 1) (fun pre X => I pre X ∧ Bk .ready none X) (fun pre X => Ix pre X ∧ Bk .done (some .ret) X) V (hb0.trans (bV.mono hb0.size))
    (OwnFrom.and (wide hI) (ownB _ _)) (OwnFrom.and (wide hIx) (ownB _ _)) ?_ ⟨iV, lV, dV⟩).mono ?_
  · rintro pre x X ⟨iX, bX⟩ hlen
    have hy := run_yield (P := Tryd.prog) (args := encs x) bX.1 (by rw [← hrc]; exact hps x)
    rw [← hrc] at hy
    refine ⟨fn, _, assign, body, hy, roundIn_of_wpIn trivial (hassign _ pre x X _ iX ?_)⟩
    intro a' Y kY kpY iY axY
    have bY : Bk .ready none Y := ⟨kY.at (by omega) bX.1, kY.at (Nat.le_refl _) bX.2⟩
    refine ⟨_, run_beginRound bY.1 (by rw [← hrc]), ?_⟩
    rw [show (Obj.loop { rc .ready none with state := .busy }) = .loop (rc .busy none) by rw [← hrc]]
    have bZ := turn .busy none bY
    refine wpIn_mono (hbody _ pre x a' _ (by omega) (hI.putObj _ iY (by omega) bY.1 rfl) ((hAx x a').putObj (s := ()) _ axY (by omega) bY.1 rfl) hlen) ?_
    have fin : ∀ (j : Option Code) (U : World), Keep w.heap.size (Y.putObj (w.heap.size + 1) (.loop (rc .busy none))) U →
        (Instr.endRound (w.heap.size + 1) j).run Tryd.prog U = .ok (.bool j.isNone) (U.putObj (w.heap.size + 1) (.loop (rc (if j.isNone then .ready else .done) j))) ∧ Bk .busy none U := fun j U kU => by
      have bU : Bk .busy none U := ⟨kU.at (by omega) bZ.1, kU.at (Nat.le_refl _) bZ.2⟩
      refine ⟨?_, bU⟩
      have := run_endRound (P := Tryd.prog) j bU.1
      rw [← hrc] at this ⊢
      exact this
    have kept : ∀ {U : World} (o : Obj), Keep w.heap.size (Y.putObj (w.heap.size + 1) (.loop (rc .busy none))) U → Keep V.heap.size X (U.putObj (w.heap.size + 1) o) := fun o kU =>
      ((kY.mono (by omega)).trans (Keep.put _ _ (by omega))).trans ((kU.mono (by omega)).trans (Keep.put _ _ (by omega)))
    rintro e a3 U hp
    cases e with
    | normal =>
      obtain ⟨kU, kpU, iU⟩ := hp
      obtain ⟨hr, bU⟩ := fin none U kU
      exact ⟨_, _, hr, kept _ kU, .inl ⟨rfl, ⟨hI.putObj _ iU (by omega) bU.1 rfl, turn _ _ bU⟩, hKt kpY (hKt (hKt (hKb _ _ _ _ (by omega) bY.1 rfl rfl) kpU) (hKb _ _ _ _ (by omega) bU.1 rfl rfl))⟩⟩
    | ret =>
      obtain ⟨kU, kpU, iU⟩ := hp
      obtain ⟨hr, bU⟩ := fin (some .ret) U kU
      exact ⟨_, _, hr, kept _ kU, .inr ⟨rfl, ⟨hIx.putObj _ iU (by omega) bU.1 rfl, turn _ _ bU⟩, hKt kpY (hKt (hKt (hKb _ _ _ _ (by omega) bY.1 rfl rfl) kpU) (hKb _ _ _ _ (by omega) bU.1 rfl rfl))⟩⟩
    | exit id => exact hp.elim
    | goto t => exact hp.elim
    | panic ch => exact hp.elim
    | outgrown => exact hp.elim
  · rintro e U ⟨⟨v, rfl⟩, (⟨xs, hS, iU, bU⟩ | ⟨pre, hS, iU, bU⟩)⟩
    · refine ⟨none, _, ?_, hdone _ xs _ (Nat.le_refl _) hS (hI.putObj (.loop (rc .exhausted none)) iU (by omega) bU.1 rfl) (turn .exhausted none bU).2⟩
      have := run_endLoop (P := Tryd.prog) bU.1 (by rw [← hrc]; simp)
      rw [← hrc] at this ⊢
      exact this
    · refine ⟨some .ret, _, ?_, hstop _ pre _ (Nat.le_refl _) hS (hIx.putObj (.loop (rc .exhausted (some .ret))) iU (by omega) bU.1 rfl) (turn .exhausted (some .ret) bU).2⟩
      have := run_endLoop (P := Tryd.prog) bU.1 (by rw [← hrc]; simp)
      rw [← hrc] at this ⊢
      exact this
end Go.Proofs.YtoheibfijpdmfaaDoor
namespace Go.Proofs.YtoheibfijpdmfaaDoor
open Go.RowKit Go.Shelf
set_option linter.unusedVariables false
attribute [local go_sem] Oper.semAt_some
theorem round_any {m m' l : Nat} {f : FuncId} {tmps : Array Value} {assign body : Code} {w : World} {R : Ending → World → Prop} (l' : Nat) (h : RoundIn Fence.wide m Tryd.prog l f tmps assign body w R) :
    RoundIn (Fence.wide.inRound l') m' Tryd.prog l f tmps assign body w R := ⟨h.1, fun c cs _ => h.2 c cs (fun d hd => by cases hd)⟩
theorem own_below {β : Type} {B : Nat} {J : β → World → Prop} (hJ : OwnFrom B J) {s : β} {W W' : World} (hs : J s W) (h : Below W.heap.size W W') : J s W' := hJ s W W' none hs (below_grown h) (fun r e => by cases e)
theorem own_wide {β : Type} {B C : Nat} {J : β → World → Prop} (h : OwnFrom B J) (hB : B ≤ C) : OwnFrom C J := fun s X Y row hs hgr hr => h s X Y row hs hgr (fun r e => ⟨by have := (hr r e).1; omega, (hr r e).2⟩)
theorem own_map {β γ : Type} {B : Nat} {J : β → World → Prop} (h : OwnFrom B J) (k : γ → β) : OwnFrom B (fun s W => J (k s) W) := fun s X Y row hs hgr hr => h (k s) X Y row hs hgr hr
theorem ownFrom_size {β : Type} (B N : Nat) : OwnFrom B (fun (_ : β) W => N ≤ W.heap.size) := fun _ _ _ _ hs hg _ => Nat.le_trans hs hg.size
end Go.Proofs.YtoheibfijpdmfaaDoor
set_option linter.unusedSimpArgs false
namespace Go.Proofs.YtoheibfijpdmfaaDoor
open Go.RowKit Go.Shelf
set_option linter.unusedVariables false
attribute [local go_sem] Oper.semAt_some
theorem take_next {α : Type} (l : List α) {k : Nat} (hk : k < l.length) : l.take (k + 1) = l.take k ++ [l[k]] := by rw [List.take_add_one, List.getElem?_eq_getElem hk]; rfl
theorem take_fin {N k : Nat} (hk : k < N) : (List.finRange N).take (k + 1) = (List.finRange N).take k ++ [⟨k, hk⟩] := by
  rw [take_next _ (by simpa using hk)]; simp
abbrev encF (x y : Int) (A : Nat) {N : Nat} (k : Fin N) : Array Value := #[.agg #[.int .i64 (x + (k.val % A : Nat)), .int .i64 (y + (k.val / A : Nat))]]
set_option maxRecDepth 100000 in
set_option maxHeartbeats 2000000 in
theorem cells_stopsF (n B : Nat) (x y : Int) (A Bn : Nat) (w : World) (hF : Four w B x y (A : Int) (Bn : Int)) (hm : may x y (A : Int) (Bn : Int) = true) :
    SeqStopsK Fence.wide n Tryd.prog 81 #[.pointer (some ⟨B, 0, none⟩)] (encF x y A (N := Bn * A)) (KB B) (fun xs => xs = List.finRange (Bn * A)) (fun pre => pre <+: List.finRange (Bn * A)) (Bn * A) w := fun l J Jx W hW hJ hJx hY h0 => by
  refine callsIn_of_wp Tryd.func81 rfl trivial ?_ rfl
  simp only [Tryd.ntmps81, List.size_toArray, List.length_cons, List.length_nil, Nat.reduceAdd, Nat.reduceSub, Array.replicate_succ, Array.replicate_zero, List.push_toArray, List.append_toArray, List.nil_append, List.cons_append]
  obtain ⟨⟨c0, c1, c2, c3⟩, _, z0⟩ := hF.kept hW
  obtain ⟨⟨⟨x0, x1⟩, y0, y1⟩, ⟨a0, a1⟩, ⟨b0, b1⟩, _⟩ := (may_iff _ _ _ _).1 hm
  gi_wp2_with fail
  refine ⟨trivial, fun h => (by cases h), ?_⟩
  refine (callsIn_wide.2 (may_is _ hm)).mono ?_
  rintro e w1 ⟨rfl, hb1⟩
  have F1 := (hF.kept hW).kept hb1
  have j1 := abides_below hJ h0 hb1
  have HB1 := hide (show KB B W w1 from kB_below hb1 z0)
  clear hb1
  obtain ⟨⟨c4, c5, c6, c7⟩, _, z1⟩ := id F1
  gi_wp2_with fail
  gi_loopw [10] (fun d wr => ∃ k : Nat, k ≤ Bn ∧ d = .int .i64 k ∧ J ((List.finRange (Bn * A)).take (k * A)) wr ∧ KB B W wr) (fun d _ => Bn - (intOf d).toNat)
  case atStart =>
    exact ⟨0, Nat.zero_le _, rfl, by rw [Nat.zero_mul]; exact j1, HB1.out⟩
  case round =>
    obtain ⟨k, hk, rfl, hJk, hBk⟩ := hrel
    rename World => wo
    have c8 := (kB_cell hBk 0).trans c0
    have c9 := (kB_cell hBk 1).trans c1
    have c10 := (kB_cell hBk 2).trans c2
    have c11 := (kB_cell hBk 3).trans c3
    by_cases hlt : k < Bn
    · gi_wp2_with fail
      gi_loopw [15] (fun d wr => ∃ j : Nat, j ≤ A ∧ d = .int .i64 j ∧ J ((List.finRange (Bn * A)).take (k * A + j)) wr ∧ KB B W wr) (fun d _ => A - (intOf d).toNat)
      case atStart =>
        exact ⟨0, Nat.zero_le _, rfl, hJk, hBk⟩
      case round =>
        obtain ⟨j, hj, rfl, hJj, hBj⟩ := hrel
        have d0 := (kB_cell hBj 0).trans c0
        have d1 := (kB_cell hBj 1).trans c1
        by_cases hjt : j < A
        · have hkj : k * A + j < Bn * A := row_lt hlt hjt (Nat.le_refl _)
          obtain ⟨fn, tmps, assign, body, hy, hR⟩ := hY ((List.finRange (Bn * A)).take (k * A + j)) ⟨k * A + j, hkj⟩ wr hJj (by simp; omega)
          have e1 := (idx_mod (w := A) (x := j) (y := k) hjt).1
          have e2 := (idx_mod (w := A) (x := j) (y := k) hjt).2
          dsimp only [encF] at hy
          rw [e1, e2] at hy
          clear e1 e2
          gi_wp2_with fail
          refine ⟨fun h => (by cases h), ?_⟩
          refine hR.mono ?_
          rintro e W3 (⟨rfl, hJ3, hk3⟩ | ⟨rfl, hJx3⟩)
          · gi_wp2_with fail
            go_roundw
            case rel => exact ⟨j + 1, by omega, by go_num, by rw [← Nat.add_assoc, take_fin hkj]; exact hJ3, kB_t hBj hk3⟩
            case measure => simp [intOf]; omega
          · gi_wp2_with fail
            refine bodyPost_ret (results_none rfl _ _ _) rfl ?_
            refine ⟨⟨_, rfl⟩, .inr ⟨_, ?_, hJx3⟩⟩
            rw [← take_fin hkj]
            exact List.take_prefix _ _
        · have hja : j = A := by omega
          subst hja
          gi_wp2_with fail
          go_roundw
          case rel => exact ⟨k + 1, by omega, by go_num, by rw [← row_end]; exact hJj, hBj⟩
          case measure => simp [intOf]; omega
    · have hkb : k = Bn := by omega
      subst hkb
      gi_wp2_with fail
      go_end0
      refine ⟨⟨_, rfl⟩, .inl ⟨_, ?_, hJk⟩⟩
      rw [List.take_of_length_le (by simp)]
/-- In block b lie n marks. -/
def Mks (w : World) (b n : Nat) (g : Nat → Bool) : Prop := w.heap[b]? = some (.cells ((List.range n).map (fun k => Value.bool (g k))).toArray 4 (0, 0))
section
variable {w w' : World} {b n : Nat} {g g' : Nat → Bool}
theorem Mks.lt (h : Mks w b n g) : b < w.heap.size := (Array.getElem?_eq_some_iff.1 h).1
theorem Mks.upto {n₀ : Nat} (h : Mks w b n g) (hb : Below n₀ w w') (hn : b < n₀) : Mks w' b n g := (hb.block b hn).trans h
theorem Mks.cell (h : Mks w b n g) {k : Nat} (hk : k < n) : w.cell? ⟨b, k, none⟩ = some (.bool (g k)) := by
  rw [cell_of_row w b k _ _ _ h]; simp [hk]
theorem Mks.f (h : Mks w b n g) (k : Nat) : w.frozen? ⟨b, k, none⟩ = false := by
  have h' : w.heap[b]? = _ := h
  simp [World.frozen?, h']
theorem Mks.congr (h : Mks w b n g) (e : ∀ k, k < n → g k = g' k) : Mks w b n g' := by
  unfold Mks at h ⊢
  rw [h]
  congr 3
  exact List.map_congr_left (fun k hk => by rw [e k (List.mem_range.1 hk)])
theorem Mks.set (h : Mks w b n g) {k : Nat} (hk : k < n) (v : Bool) : Mks (w.setCell ⟨b, k, none⟩ (.bool v)) b n (fun j => if j = k then v else g j) := by
  have h' : w.heap[b]? = _ := h
  unfold Mks
  have e : ((List.range n).map (fun k => Value.bool (g k))).set k (.bool v) = (List.range n).map (fun j => Value.bool (if j = k then v else g j)) := by
    refine List.ext_getElem (by simp) (fun i h1 h2 => ?_)
    simp only [List.getElem_set, List.getElem_map, List.getElem_range]
    by_cases hik : k = i
    · subst hik; simp
    · rw [if_neg hik, if_neg (fun e => hik e.symm)]
  simp [World.setCell, Array.getElem?_modify, h', e]
theorem Mks.own {W W' : World} {row : Option Nat} (h : Mks W b n g) (hg : W.grownBy W' row) (hr : ∀ r, row = some r → ∃ o : Obj, W.heap[r]? = some o ∧ o.isCells = false) : Mks W' b n g :=
  (hg.block b h.lt (fun e => by
    obtain ⟨o, ho, hc⟩ := hr b e.symm
    have h' : W.heap[b]? = _ := h
    rw [h'] at ho
    cases ho
    cases hc)).trans h
end
theorem info4 : (Tryd.prog.info? 4).map (fun i => (i.zero, i.size, i.bytes)) = some (some (.bool false), 1, 1) := by kernel_rfl
theorem made_list (z : Value) (n : Nat) : madeCells #[z] n = (List.replicate n z).toArray := by
  simp only [madeCells]
  refine Array.ext (by simp) (fun i h1 h2 => ?_)
  simp [Nat.mod_one]
theorem make_marks (n : Nat) (hn : n ≤ 16384) (w : World) : (Instr.makeSlice 43 (.int .i64 (n : Nat)) (.int .i64 (n : Nat))).run Tryd.prog w = .ok (sl w.heap.size n) (w.alloc (.cells ((List.range n).map (fun _ => Value.bool false)).toArray 4)) := by
  have := run_make_row' (P := Tryd.prog) 43 4 (.bool false) 1 Tryd.underlying43 info4 rfl .i64 .i64 n (by omega) (by omega) w
  rw [made_list] at this
  rw [this, List.map_const', List.length_range]
theorem made_marks (n : Nat) (w : World) : Mks (w.alloc (.cells ((List.range n).map (fun _ => Value.bool false)).toArray 4)) w.heap.size n (fun _ => false) := heap_alloc_new w _
theorem make_sizes (n : Nat) (hn : n ≤ 16384) (w : World) : (Instr.makeSlice 22 (.int .i64 (n : Nat)) (.int .i64 (n : Nat))).run Tryd.prog w = .ok (sl w.heap.size n) (w.alloc (.cells ((List.replicate n 0).map (fun n => Value.int .u8 (n : Nat))).toArray 5)) := by
  have := run_make_row' (P := Tryd.prog) 22 5 (.int .u8 0) 1 Tryd.underlying22 info5 rfl .i64 .i64 n (by omega) (by omega) w
  rw [made_list] at this
  rw [this, List.map_replicate]; rfl
theorem made_sizes (n : Nat) (w : World) : Szs (w.alloc (.cells ((List.replicate n 0).map (fun n => Value.int .u8 (n : Nat))).toArray 5)) w.heap.size (List.replicate n 0) := heap_alloc_new w _
/-- Two blocks are as they were. -/
def KB2 (B C : Nat) (W W' : World) : Prop := KB B W W' ∧ KB C W W'
theorem kB2_t {B C : Nat} {X Y Z : World} (h : KB2 B C X Y) (k : KB2 B C Y Z) : KB2 B C X Z := ⟨kB_t h.1 k.1, kB_t h.2 k.2⟩
abbrev encB {N : Nat} (q : Fin N × Bool) : Array Value := #[.int .i64 (q.1.val : Nat), .bool q.2]
/-- The numbers of a row of marks from the last one back, each with its mark. -/
def backL (N : Nat) (g : Nat → Bool) : List (Fin N × Bool) := (List.finRange N).reverse.map (fun i => (i, g i.val))
theorem backL_len (N : Nat) (g : Nat → Bool) : (backL N g).length = N := by simp [backL]
theorem backL_get (N : Nat) (g : Nat → Bool) {j : Nat} (hj : j < N) : (backL N g)[j]'(by rw [backL_len]; exact hj) = (⟨N - 1 - j, by omega⟩, g (N - 1 - j)) := by
  simp [backL]
set_option maxRecDepth 100000 in
set_option maxHeartbeats 2000000 in
theorem back_stops (n B C N : Nat) (g : Nat → Bool) (w : World) (hN : N ≤ 16384) (hB : Boxed w B 43 (sl C N)) (hM : Mks w C N g) :
    SeqStopsK Fence.wide n Tryd.prog 102 #[.pointer (some ⟨B, 0, none⟩)] (encB (N := N)) (KB2 B C) (fun xs => xs = backL N g) (fun pre => pre <+: backL N g) N w := fun l J Jx W hW hJ hJx hY h0 => by
  refine callsIn_of_wp Tryd.func102 rfl trivial ?_ rfl
  simp only [Tryd.ntmps102, List.size_toArray, List.length_cons, List.length_nil, Nat.reduceAdd, Nat.reduceSub, Array.replicate_succ, Array.replicate_zero, List.push_toArray, List.append_toArray, List.nil_append, List.cons_append]
  have bW := boxed_upto hB hW hB.lt
  have mW := hM.upto hW hM.lt
  have c0 := bW.cell
  have hNi : ((N : Nat) : Int) ≤ 16384 := by omega
  gi_wp2_with fail
  clear c0
  gi_loopw [3] (fun d wr => ∃ j : Nat, j ≤ N ∧ d = .int .i64 ((N : Int) - 1 - (j : Nat)) ∧ J ((backL N g).take j) wr ∧ KB2 B C W wr) (fun d _ => (intOf d + 1).toNat)
  case atStart => exact ⟨0, Nat.zero_le _, by simp, h0, rfl, rfl⟩
  case round =>
    obtain ⟨j, hj, rfl, hJj, hBj⟩ := hrel
    have c0 := ((kB_cell hBj.1 0).trans bW.cell)
    by_cases hlt : j < N
    · obtain ⟨i, hi⟩ : ∃ i : Nat, i = N - 1 - j := ⟨_, rfl⟩
      have hiN : i < N := by omega
      have m0 := ((kB_cell hBj.2 i).trans (mW.cell hiN))
      have hii : (N : Int) - 1 - (j : Nat) = (i : Nat) := by omega
      have hir : (0 : Int) ≤ (i : Nat) ∧ ((i : Nat) : Int) < (N : Nat) := by omega
      obtain ⟨fn, tmps, assign, body, hy, hR⟩ := hY ((backL N g).take j) (⟨i, hiN⟩, g i) wr hJj (by rw [List.length_take, backL_len]; omega)
      have hnx : (backL N g).take (j + 1) = (backL N g).take j ++ [(⟨i, hiN⟩, g i)] := by
        rw [take_next _ (by rw [backL_len]; exact hlt), backL_get N g hlt]
        subst hi; rfl
      have Hnx := hide hnx
      have Hi := hide hi
      dsimp only [encB] at hy
      rw [hii]
      clear hnx hi hii
      gi_wp2_with fail
      refine ⟨fun h => (by cases h), ?_⟩
      refine hR.mono ?_
      rintro e W3 (⟨rfl, hJ3, hk3⟩ | ⟨rfl, hJx3⟩)
      · gi_wp2_with fail
        go_roundw
        case rel => exact ⟨j + 1, by omega, by have := Hi.out; congr 1; omega, by rw [Hnx.out]; exact hJ3, kB2_t hBj hk3⟩
        case measure => simp [intOf] <;> omega
      · gi_wp2_with fail
        refine bodyPost_ret (results_none rfl _ _ _) rfl ?_
        refine ⟨⟨_, rfl⟩, .inr ⟨_, ?_, hJx3⟩⟩
        rw [← Hnx.out]
        exact List.take_prefix _ _
    · obtain rfl : j = N := by omega
      have hii : (j : Int) - 1 - (j : Nat) = -1 := by omega
      rw [hii]
      gi_wp2_with fail
      go_end0
      refine ⟨⟨_, rfl⟩, .inl ⟨_, ?_, hJj⟩⟩
      rw [List.take_of_length_le (by rw [backL_len]; exact Nat.le_refl _)]
end Go.Proofs.YtoheibfijpdmfaaDoor
namespace Go.Proofs.YtoheibfijpdmfaaDoor
open Go.RowKit
set_option linter.unusedVariables false
section
variable {n l : Nat} {P : Program} {ops : Array Oper} {md : Region.Mode} {Q : Exit → Act → World → Prop}
theorem oper_in {o : Oper} {a : Act} {w : World} {K K' : Act → World → Prop} (hnd : ∀ c, o.op ≠ .defer c) (hK : ∀ a w, K a w → K' a w) (h : o.wp P a w K Q) : o.wpIn (Fence.wide.inRound l) n P a w K' Q := by
  unfold Oper.wp at h
  unfold Oper.wpIn
  refine ⟨fun _ _ => trivial, ?_⟩
  rw [Oper.semAt_eq _ _ _ hnd]
  generalize (execOp a.eval o).run P w = r at *
  cases r with
  | ok x w' =>
    cases x <;> simp only [Oper.upon] at h <;> simp only [Oper.uponIn]
    case value u => exact hK _ _ h
    case skip => exact hK _ _ h
    case defer d => exact hK _ _ h
    case enter f args =>
      refine ⟨(fun h => by cases h), CallsIn.inRound l (callsIn_wide.2 (h.mono ?_))⟩
      rintro e w'' he
      cases e with
      | returned v => exact hK _ _ he
      | panicked ch => exact he
      | outgrown => exact he
    case row r args =>
      refine ⟨(fun h => by cases h), fun c cs _ => ?_⟩
      obtain ⟨v, w2, hr, hs⟩ := h c cs
      exact ⟨v, w2, hK _ _ hr, stepsIn_wide.2 hs⟩
  | halt x w' => cases x <;> exact h
theorem wpOp_in {i : Nat} {a : Act} {w : World} {K K' : Act → World → Prop} (hno : ¬ LetsOut Q) (hnd : ∀ (i : Nat) (o : Oper), ops[i]? = some o → ∀ c, o.op ≠ .defer c) (hK : ∀ a w, K a w → K' a w)
    (h : wpOp P ops Q i K a w) : wpOpIn (Fence.wide.inRound l) n P ops Q i K' a w := by
  unfold wpOp at h
  unfold wpOpIn
  split
  · rename_i ho; simp only [ho] at h; exact hK _ _ h
  · rename_i o ho
    simp only [ho] at h
    split
    · rename_i hw
      simp only [hw, if_true] at h
      rcases h with h | h
      · exact oper_in (hnd i o ho) hK h
      · exact absurd h.2 hno
    · rename_i hw
      simp only [hw] at h
      exact ⟨fun _ _ => trivial, hK _ _ h⟩
theorem wpAny_in (hno : ¬ LetsOut Q) (hnd : ∀ (i : Nat) (o : Oper), ops[i]? = some o → ∀ c, o.op ≠ .defer c) : ∀ (fuel : Nat) (listed : Array Bool) (a : Act) (w : World),
    wpAny P md ops Q fuel listed a w → wpAnyIn (Fence.wide.inRound l) n P md ops Q fuel listed a w
  | 0, _, _, _, h => h
  | fuel + 1, _, _, _, h => ⟨h.1, fun i hi => wpOp_in hno hnd (fun a' w' => wpAny_in hno hnd fuel _ a' w') (h.2 i hi)⟩
end
theorem wpIn_region_heldR {n l : Nat} {P : Program} {id : Nat} {Q : Exit → Act → World → Prop} {a : Act} {w : World} {L : List Oper} {S : World → Prop} (hno : ¬ LetsOut Q) (hm : P.follows .mixedOrders = true) (hd : noDefer L = true) (hS : S w.drew)
    (h : S w.drew → wpAnyH P .any L.toArray Q S L.toArray.size (Array.replicate L.toArray.size false) a w.drew) : (Code.region id L.toArray true).wpIn (Fence.wide.inRound l) n P Q a w :=
  wpIn_region_any hm (wpAny_in hno (fun i o ho => noDefer_at hd ho) _ _ _ _ (wpAny_of_held _ _ _ _ (h hS)))
theorem only_in {K : Act → World → Prop} : ¬ LetsOut (Only K) := fun ⟨_, _, h⟩ => h
end Go.Proofs.YtoheibfijpdmfaaDoor
namespace Go.Proofs.YtoheibfijpdmfaaDoor
open Go.RowKit
set_option linter.unusedVariables false
section
variable {F : Fence} {n : Nat} {P : Program} {ops : Array Oper} {R : Act → World → Prop} {S : World → Prop}
/-- Whatever comes up next runs, the condition holds behind it, and so on to the end. -/
def Goes (F : Fence) (n : Nat) (P : Program) (ops : Array Oper) (R : Act → World → Prop) (S : World → Prop) : Nat → Array Bool → Act → World → Prop
  | 0, listed, a, w => Region.ready .any ops listed = [] ∧ R a w
  | k + 1, listed, a, w => (Region.ready .any ops listed = [] → R a w) ∧ ∀ i ∈ Region.ready .any ops listed, wpOpIn F n P ops (Only R) i (fun a' w' => S w' ∧ Goes F n P ops R S k (listed.setIfInBounds i true) a' w') a w
theorem Goes.any : ∀ (k : Nat) (listed : Array Bool) (a : Act) (w : World), Goes F n P ops R S k listed a w → wpAnyIn F n P .any ops (Only R) k listed a w
  | 0, _, _, _, h => h
  | k + 1, _, _, _, h => ⟨h.1, fun i hi => wpOpIn_mono (fun a' w' h' => Goes.any k _ a' w' h'.2) (h.2 i hi)⟩
theorem reads_now (hF : ∀ f, F.fn f) {i : Nat} {o : Oper} {v : Value} {a : Act} (hi : ops[i]? = some o) (hd : ∀ c, o.op ≠ .defer c) (hy : YieldsIf P ops S o v a)
    {K : Act → World → Prop} {w : World} (hS : S w) (h : K (a.put o.dst v) w) : wpOpIn F n P ops (Only R) i K a w := by
  unfold wpOpIn
  rw [hi]
  rcases hy with ⟨hw, hv⟩ | ⟨hw, rfl⟩
  · simp only [hw, if_true, Oper.wpIn, Oper.semAt_eq _ _ _ hd, hv w hS, Oper.uponIn]
    exact ⟨fun f _ => hF f, h⟩
  · simp only [hw, Bool.false_eq_true, if_false]
    exact ⟨fun f _ => hF f, h⟩
/-- What reads may be put behind another operation that has nothing to do with it. -/
theorem reads_later (hF : ∀ f, F.fn f) {j : Nat} {oi oj : Oper} {v : Value} (hj : ops[j]? = some oj) (hd : ∀ c, oj.op ≠ .defer c) (hap : oi.apart ops oj = true) (hsi : ∀ cs b, oi.op ≠ .select cs b) (hsj : ∀ cs b, oj.op ≠ .select cs b)
    {K : Act → World → Prop} {a : Act} {w : World} (hy : YieldsIf P ops S oi v a) (h : wpOpIn F n P ops (Only R) j K (a.put oi.dst v) w) :
    wpOpIn F n P ops (Only R) j (fun a' w' => YieldsIf P ops S oi v a' ∧ K (a'.put oi.dst v) w') a w := by
  obtain ⟨h1, h2, h3⟩ := Oper.apart_spec hap
  have fin : ∀ (u : Value) (w' : World), K ((a.put oi.dst v).put oj.dst u) w' → YieldsIf P ops S oi v (a.put oj.dst u) ∧ K ((a.put oj.dst u).put oi.dst v) w' := fun u w' hk =>
    ⟨hy.of_same (execOp_put oi hsi a oj.dst u h3) (wanted_put oi a oj.dst u h3), by rw [← Act.put_comm a v u h2]; exact hk⟩
  unfold wpOpIn at h ⊢
  simp only [hj] at h ⊢
  rw [wanted_put oj a oi.dst v h1] at h
  by_cases hw : Region.wanted oj (yielded ops a.tmps) = true
  · simp only [hw, if_true] at h ⊢
    unfold Oper.wpIn at h ⊢
    refine ⟨fun f _ => hF f, ?_⟩
    have h := h.2
    rw [Oper.semAt_eq _ _ _ hd, execOp_put oj hsj a oi.dst v h1] at h
    rw [Oper.semAt_eq _ _ _ hd]
    generalize (execOp a.eval oj).run P w = r at h ⊢
    have ends : ∀ (e : Ending) (w'' : World), (match e, w'' with | .returned u, w'' => K ((a.put oi.dst v).put oj.dst u) w'' | .panicked c, w'' => Only R (.panic c) (a.put oi.dst v) w'' | .outgrown, _ => LetsOut (Only R)) →
        (match e, w'' with | .returned u, w'' => YieldsIf P ops S oi v (a.put oj.dst u) ∧ K ((a.put oj.dst u).put oi.dst v) w'' | .panicked c, w'' => Only R (.panic c) a w'' | .outgrown, _ => LetsOut (Only R)) := fun e w'' he => by
      cases e with
      | returned u => exact fin u w'' he
      | panicked c => exact he
      | outgrown => exact he
    cases r with
    | ok x w' =>
      cases x <;> simp only [Oper.uponIn] at h ⊢
      case value u => exact fin u w' h
      case skip => exact fin undef w' h
      case defer d =>
        refine ⟨(hy.of_same rfl rfl : YieldsIf P ops S oi v { a with defers := d :: a.defers }).of_same (execOp_put oi hsi _ oj.dst undef h3) (wanted_put oi _ oj.dst undef h3), ?_⟩
        rw [← Act.put_comm _ v undef h2, ← Act.put_defers]
        exact h
      case enter f args => exact ⟨h.1, h.2.mono ends⟩
      case row row args => exact ⟨h.1, h.2.mono fun u w'' he => fin u w'' he⟩
      case round l f tmps assign body => exact ⟨h.1, h.2.mono ends⟩
    | halt x w' => cases x <;> simp only [Oper.uponIn] at h ⊢ <;> exact h
  · simp only [hw] at h ⊢
    exact ⟨fun f _ => hF f, fin undef w h.2⟩
theorem Goes.first (hF : ∀ f, F.fn f) (hd : ∀ (j : Nat) (o : Oper), ops[j]? = some o → ∀ c, o.op ≠ .defer c) {i : Nat} {oi : Oper} {v : Value} (hi : ops[i]? = some oi) (hsel : ∀ (j : Nat) (o : Oper) cs b, ops[j]? = some o → o.op ≠ .select cs b) :
    ∀ (k : Nat) (listed : Array Bool) (a : Act) (w : World),
      (∀ j oj, ops[j]? = some oj → j ≠ i → listed.getD j true = false → (∀ e ∈ oj.after, Region.binds .any e = true → e.on ≠ i) → oi.apart ops oj = true) →
      i ∈ Region.ready .any ops listed → YieldsIf P ops S oi v a → S w → Goes F n P ops R S k (listed.setIfInBounds i true) (a.put oi.dst v) w → Goes F n P ops R S (k + 1) listed a w := by
  intro k
  induction k with
  | zero =>
    intro listed a w _ hr hy hS H
    refine ⟨fun h => (by rw [h] at hr; cases hr), fun j hj => ?_⟩
    by_cases hji : j = i
    · subst hji; exact reads_now hF hi (hd _ _ hi) hy hS ⟨hS, H⟩
    · have := ready_mono hj hji
      rw [H.1] at this
      cases this
  | succ k ih =>
    intro listed a w hfree hr hy hS H
    refine ⟨fun h => (by rw [h] at hr; cases hr), fun j hj => ?_⟩
    by_cases hji : j = i
    · subst hji; exact reads_now hF hi (hd _ _ hi) hy hS ⟨hS, H⟩
    · obtain ⟨hjun, oj, hoj, hall⟩ := mem_ready.1 hj
      have hnot : ∀ e ∈ oj.after, Region.binds .any e = true → e.on ≠ i := fun e he hb heq => by
        have h1 := hall e he hb
        have h0 := (mem_ready.1 hr).1
        rw [heq] at h1
        rcases Nat.lt_or_ge i listed.size with h' | h'
        · simp [h'] at h0 h1; rw [h0] at h1; cases h1
        · simp [Array.getElem?_eq_none h'] at h1
      refine wpOpIn_mono (fun a' w' h3 => ⟨h3.2.1, ih (listed.setIfInBounds j true) a' w' (fun m om hm hmi hun hno => hfree m om hm hmi ?_ hno) (ready_mono hr (Ne.symm hji)) h3.1 h3.2.1 ?_⟩)
        (reads_later hF hoj (hd _ _ hoj) (hfree j oj hoj hji hjun hnot) (fun cs b => hsel i oi cs b hi) (fun cs b => hsel j oj cs b hoj) hy (H.2 j (ready_mono hj hji)))
      · by_cases hjk : j = m
        · subst hjk; exact hjun
        · rw [getD_set_ne true hjk] at hun; exact hun
      · rw [Array.setIfInBounds_comm _ _ hji]
        exact h3.2.2
end
section
variable {n l : Nat} {P : Program} {R : Act → World → Prop} {S : World → Prop} {L : List Oper}
abbrev GoesR (n l : Nat) (P : Program) (L : List Oper) (R : Act → World → Prop) (S : World → Prop) := Goes (Fence.wide.inRound l) n P L.toArray R S
theorem GoesR.take {i : Nat} {oi : Oper} {v : Value} {k : Nat} {listed : Array Bool} {a : Act} {w : World} (hi : L.toArray[i]? = some oi) (hd : noDefer L = true)
    (hs : Region.noSelect L.toArray = true) (hf : Region.free .any L.toArray listed i = true) (hr : (Region.ready .any L.toArray listed).contains i = true) (hy : YieldsIf P L.toArray S oi v a) (hS : S w)
    (h : GoesR n l P L R S k (listed.setIfInBounds i true) (a.put oi.dst v) w) : GoesR n l P L R S (k + 1) listed a w :=
  Goes.first (fun _ => trivial) (fun j o ho => noDefer_at hd ho) hi (Region.noSelect_spec hs) k listed a w (Region.free_spec hi hf) (by simpa using hr) hy hS h
/-- One operation alone can come up. -/
theorem GoesR.one {i : Nat} {o : Oper} {k : Nat} {listed : Array Bool} {a : Act} {w : World} (hr : Region.ready .any L.toArray listed = [i]) (ho : L.toArray[i]? = some o)
    (h : ∀ K : Act → World → Prop, Shut (∀ a' w', S w' → GoesR n l P L R S k (listed.setIfInBounds i true) a' w' → K a' w') → if Region.wanted o (yielded L.toArray a.tmps) = true then Oper.wpIn (Fence.wide.inRound l) n P o a w K (Only R) else K (a.put o.dst undef) w) : GoesR n l P L R S (k + 1) listed a w := by
  refine ⟨fun h0 => (by rw [hr] at h0; cases h0), fun j hj => ?_⟩
  rw [hr] at hj
  obtain rfl : j = i := by simpa using hj
  have := h (fun a' w' => S w' ∧ GoesR n l P L R S k (listed.setIfInBounds j true) a' w') (fun a' w' h1 h2 => ⟨h1, h2⟩)
  unfold wpOpIn
  rw [ho]
  by_cases hw : Region.wanted o (yielded L.toArray a.tmps) = true
  · simp only [hw, if_true] at this ⊢
    exact this
  · simp only [hw] at this ⊢
    exact ⟨fun _ _ => trivial, this⟩
theorem GoesR.done {listed : Array Bool} {a : Act} {w : World} (hr : Region.ready .any L.toArray listed = []) (h : R a w) : ∀ k, GoesR n l P L R S k listed a w
  | 0 => ⟨hr, h⟩
  | _ + 1 => ⟨fun _ => h, by rw [hr]; simp⟩
theorem wpIn_region_goes {id : Nat} {a : Act} {w : World} (hm : P.follows .mixedOrders = true) (h : GoesR n l P L R S L.toArray.size (Array.replicate L.toArray.size false) a w.drew) : (Code.region id L.toArray true).wpIn (Fence.wide.inRound l) n P (Only R) a w :=
  wpIn_region_any hm (Goes.any _ _ _ _ h)
end
end Go.Proofs.YtoheibfijpdmfaaDoor
set_option linter.unusedSimpArgs false
namespace Go.Proofs.YtoheibfijpdmfaaDoor
open Go.RowKit Go.Shelf
set_option linter.unusedVariables false
attribute [local go_sem] Oper.semAt_some
/-- The slice v reads as rectangles. -/
def RcB (w : World) (v : Value) (l : List Rc) : Prop :=
  ∃ a cap, v = .slice a l.length cap ∧ l.length ≤ cap ∧ ∀ i r, l[i]? = some r → ∃ g, a = some ⟨g, 0, none⟩ ∧ g < w.heap.size ∧
    w.cell? ⟨g, i * 4, none⟩ = some (.int .i64 r.x) ∧ w.cell? ⟨g, i * 4 + 1, none⟩ = some (.int .i64 r.y) ∧ w.cell? ⟨g, i * 4 + 2, none⟩ = some (.int .i64 r.a) ∧ w.cell? ⟨g, i * 4 + 3, none⟩ = some (.int .i64 r.b)
theorem RcB.kept {w w' : World} {v : Value} {l : List Rc} (h : RcB w v l) (hb : Below w.heap.size w w') : RcB w' v l := by
  obtain ⟨a, cap, e, h1, h2⟩ := h
  refine ⟨a, cap, e, h1, fun i r hr => ?_⟩
  obtain ⟨g, e1, e2, c0, c1, c2, c3⟩ := h2 i r hr
  exact ⟨g, e1, Nat.lt_of_lt_of_le e2 hb.size, (hb.cell (p := ⟨g, _, none⟩) e2).trans c0, (hb.cell (p := ⟨g, _, none⟩) e2).trans c1, (hb.cell (p := ⟨g, _, none⟩) e2).trans c2, (hb.cell (p := ⟨g, _, none⟩) e2).trans c3⟩
def inR (wd : Nat) (r : Rc) (k : Nat) : Bool := decide ((r.x - 3 ≤ ((k % wd : Nat) : Int) ∧ ((k % wd : Nat) : Int) ≤ r.x + r.a - 1) ∧ r.y - 3 ≤ ((k / wd : Nat) : Int) ∧ ((k / wd : Nat) : Int) ≤ r.y + r.b - 1)
def mkR (wd : Nat) (rl : List Rc) (k : Nat) : Bool := rl.any (fun r => inR wd r k)
abbrev encK (wd : Nat) {N : Nat} (k : Fin N) : Array Value := #[cel ((k.val % wd : Nat) : Int) ((k.val / wd : Nat) : Int)]
/-- The marked cells, from the last one back. -/
def markL (N wd : Nat) (rl : List Rc) : List (Fin N) := (List.finRange N).reverse.filter (fun i => mkR wd rl i.val)
abbrev mark (D : Nat) : Deferred := { target := .collected D, args := #[] }
/-- What the loop over the rectangles keeps. -/
def Lp (V0 : World) (c mbx mb N wd : Nat) (rl : List Rc) (X : World) (i : Nat) (Ds : List Nat) : Prop :=
  ((Below V0.heap.size V0 X ∧ Boxed X mbx 43 (sl mb N)) ∧ Mks X mb N (mkR wd (rl.take i))) ∧ (Ds.Nodup ∧ ∀ D ∈ Ds, c ≤ D ∧ X.heap[D]? = some (.deferred (some []))) ∧ c ≤ X.heap.size
theorem leave_marks {n : Nat} {fn : Func} {tmps : Array Value} {R : Ending → World → Prop} {c : Nat} (Jp : World → Prop) (hst : ∀ X D, c ≤ D → X.heap[D]? = some (.deferred (some [])) → Jp X → Jp (X.putObj D (.deferred none)))
    (hend : ∀ X, Jp X → LeavesInM Fence.wide n Tryd.prog fn tmps R [] .returning X) : ∀ (Ds : List Nat) (X : World), Ds.Nodup → (∀ D ∈ Ds, c ≤ D ∧ X.heap[D]? = some (.deferred (some []))) → Jp X → LeavesInM Fence.wide n Tryd.prog fn tmps R (Ds.map mark) .returning X
  | [], X, _, _, h => hend X h
  | D :: Ds, X, hnd, hD, h => by
    have hn := List.nodup_cons.1 hnd
    refine ⟨by simp, .inl ⟨D, _, rfl, run_takeDeferred (hD D (by simp)).2, ?_⟩⟩
    refine leave_marks Jp hst hend Ds _ hn.2 (fun D' hD' => ⟨(hD D' (by simp [hD'])).1, ?_⟩) (hst X D (hD D (by simp)).1 (hD D (by simp)).2 h)
    rw [World.putObj_heap_other (by rintro rfl; exact hn.1 hD')]
    exact (hD D' (by simp [hD'])).2
theorem wpIn_only {F : Fence} {m : Nat} {c : Code} {Q : Exit → Act → World → Prop} {a : Act} {w : World} (h : c.wpIn F m Tryd.prog (Only (fun a' w' => Q .normal a' w')) a w) : c.wpIn F m Tryd.prog Q a w := by
  refine Code.wpIn_mono ?_ h
  rintro (_ | _ | _ | _ | _) a' w' hO
  all_goals first | exact hO.elim | exact hO
/-- A rectangle's cells, by their places in the world. -/
theorem cover {wd ht N U Vv A Bn k : Nat} {r : Rc} (hN : N = wd * ht) (hA : 1 ≤ A) (hUA : U + A ≤ wd) (hVB : Vv + Bn ≤ ht) (hU : max (r.x - 3) 0 = (U : Int)) (hV : max (r.y - 3) 0 = (Vv : Int)) (hA' : r.x + r.a - (U : Int) = (A : Int)) (hB' : r.y + r.b - (Vv : Int) = (Bn : Int)) (hk : k < N) :
    (List.finRange (Bn * A)).any (fun q => decide ((Vv + q.val / A) * wd + (U + q.val % A) = k)) = inR wd r k := by
  rw [Bool.eq_iff_iff, List.any_eq_true]
  simp only [inR, decide_eq_true_eq]
  have hkx : k % wd < wd := Nat.mod_lt _ (by omega)
  constructor
  · rintro ⟨q, -, rfl⟩
    have h1 : q.val % A < A := Nat.mod_lt _ hA
    have h2 : q.val / A < Bn := by rw [Nat.div_lt_iff_lt_mul hA]; exact q.isLt
    rw [(idx_mod (w := wd) (x := U + q.val % A) (y := Vv + q.val / A) (by omega)).1, (idx_mod (w := wd) (x := U + q.val % A) (y := Vv + q.val / A) (by omega)).2]
    generalize q.val % A = a1 at *
    generalize q.val / A = a2 at *
    omega
  · rintro ⟨⟨h1, h2⟩, h3, h4⟩
    have e : k / wd * wd + k % wd = k := by rw [Nat.mul_comm]; exact Nat.div_add_mod k wd
    generalize hx : k % wd = kx at *
    generalize hy : k / wd = ky at *
    have hlt : (ky - Vv) * A + (kx - U) < Bn * A := by
      have := idx_lt (w := A) (h := Bn) (x := kx - U) (y := ky - Vv) (by omega) (by omega)
      rwa [Nat.mul_comm A Bn] at this
    refine ⟨⟨(ky - Vv) * A + (kx - U), hlt⟩, List.mem_finRange _, ?_⟩
    simp only
    rw [(idx_mod (w := A) (x := kx - U) (y := ky - Vv) (by omega)).1, (idx_mod (w := A) (x := kx - U) (y := ky - Vv) (by omega)).2, show Vv + (ky - Vv) = ky by omega, show U + (kx - U) = kx by omega]
    exact e
theorem mks_own {β : Type} {B b n : Nat} {F : β → Nat → Bool} : OwnFrom B (fun (s : β) W => Mks W b n (F s)) := fun s X Y row hs hg hr => hs.own hg (fun r e => (hr r e).2)
theorem marks_own {β : Type} {B c : Nat} {Ds : List Nat} (hD : ∀ D ∈ Ds, D < B) : OwnFrom B (fun (_ : β) W => ∀ D ∈ Ds, c ≤ D ∧ W.heap[D]? = some (.deferred (some []))) := fun s X Y row hs hg hr D hm => by
  refine ⟨(hs D hm).1, ?_⟩
  have h' := (hs D hm).2
  refine (hg.block D (Array.getElem?_eq_some_iff.1 h').1 (fun e => ?_)).trans h'
  have := (hr D e.symm).1
  have := hD D hm
  omega
theorem cell_other {X : World} {b o b' o' : Nat} {v u : Value} (h : X.cell? ⟨b, o, none⟩ = some v) (hne : b ≠ b') : (X.setCell ⟨b', o', none⟩ u).cell? ⟨b, o, none⟩ = some v := (World.cell?_setCell_other X ⟨b', o', none⟩ ⟨b, o, none⟩ u (by intro e; injection e with e1; omega)).trans h
theorem kB_set {B : Nat} (X : World) {p : Addr} (v : Value) (h : B ≠ p.block) : KB B X (X.setCell p v) := Below.heap_setCell X p v B h
theorem back_any (c m : Nat) (w : World) : Calls Tryd.prog 96 #[sl c m] w fun e w' => e = .returned (.func (.func 102) #[] #[ptr w.heap.size]) ∧ w' = w.alloc (.cells #[sl c m] 43) := by
  go_enter Tryd.func96, Tryd.ntmps96
  go_wp2_with fail
  go_ret
  exact ⟨rfl, rfl⟩
theorem block_own {β : Type} {B b : Nat} {cs : Array Value} {t : TypeId} : OwnFrom B (fun (_ : β) W => W.heap[b]? = some (.cells cs t (0, 0))) := fun s X Y row hs hg hr =>
  (hg.block b (Array.getElem?_eq_some_iff.1 hs).1 (fun e => by
    obtain ⟨-, o, ho, hc⟩ := hr b e.symm
    rw [hs] at ho
    cases ho
    cases hc)).trans hs
/-- The marked ones of a list. -/
def filt {N : Nat} (l : List (Fin N × Bool)) : List (Fin N) := (l.filter (fun q => q.2)).map (fun q => q.1)
theorem filt_snoc {N : Nat} (l : List (Fin N × Bool)) (q : Fin N × Bool) : filt (l ++ [q]) = filt l ++ (if q.2 = true then [q.1] else []) := by
  unfold filt
  rw [List.filter_append, List.map_append]
  cases h : q.2 <;> simp [h]
theorem filt_len {N : Nat} (l : List (Fin N × Bool)) : (filt l).length ≤ l.length := by
  unfold filt
  rw [List.length_map]
  exact List.length_filter_le _ _
theorem filt_pre {N : Nat} {a b : List (Fin N × Bool)} (h : a <+: b) : filt a <+: filt b := (h.filter _).map _
theorem filt_back {N wd : Nat} {rl : List Rc} : filt (backL N (mkR wd rl)) = markL N wd rl := by
  unfold filt backL markL
  rw [List.filter_map, List.map_map]
  simp [Function.comp_def]
theorem wrap_nat {n : Nat} (h : n ≤ 16384) : IntKind.i64.wrap (n : Int) = (n : Int) := by rw [IntKind.wrap_i64]; omega
theorem bool_end {e : Ending} {A : Prop} {P Q : Prop} (h : A ∧ ((e = .returned (.bool true) ∧ P) ∨ (e = .returned (.bool false) ∧ Q))) : ∃ b : Bool, e = .returned (.bool b) ∧ A ∧ ((b = true ∧ P) ∨ (b = false ∧ Q)) := by
  obtain ⟨h1, (⟨h2, h3⟩ | ⟨h2, h3⟩)⟩ := h
  · exact ⟨true, h2, h1, .inl ⟨rfl, h3⟩⟩
  · exact ⟨false, h2, h1, .inr ⟨rfl, h3⟩⟩
theorem gs_of {n : Nat} (h : 1 ≤ n ∧ n ≤ 128) : gs (n : Int) 128 = true := by simp only [gs, decide_eq_true_eq]; omega
set_option maxRecDepth 100000 in
set_option maxHeartbeats 8000000 in
theorem reached_seq (n p q he hf b N : Nat) (cl ep : Int) (wd ht : Nat) (ev : Value) (rl : List Rc) (w : World) (hn : 1 ≤ n) (hwd : (1 ≤ wd ∧ wd ≤ 128) ∧ 1 ≤ ht ∧ ht ≤ 128) (hN : N = wd * ht)
    (hd : Fd w p q cl wd ht b N ep) (hE : Boxed w he 87 ev) (hF : Boxed w hf 58 (ptr p)) (hR : RcB w ev rl) (hrl : rl.length ≤ 1000000) (hwi : ∀ r ∈ rl, wi r.x r.y r.a r.b 0 0 wd ht = true) :
    SeqOwn n 94 #[ptr he, ptr hf] (encK wd (N := N)) (KB2 p hf) (fun xs => xs = markL N wd rl) (fun pre => pre <+: markL N wd rl) N w := fun l J Jx V hV hJ hJx hY h0 => by
  refine callsIn_of_wp_marks Tryd.func94 rfl trivial ?_ rfl
  simp only [Tryd.ntmps94, List.size_toArray, List.length_cons, List.length_nil, Nat.reduceAdd, Nat.reduceSub, Array.replicate_succ, Array.replicate_zero, List.push_toArray, List.append_toArray, List.nil_append, List.cons_append]
  have hN2 : N ≤ 16384 := by have := Nat.mul_le_mul hwd.1.2 hwd.2.2; omega
  obtain ⟨V0, hV0⟩ : ∃ V0, V.alloc (.cells #[.func (.yield l) #[] #[]] 56) = V0 := ⟨_, rfl⟩
  have B0 : Below V.heap.size V V0 := by rw [← hV0]; exact box1 _ _
  have Y0 : Boxed V0 V.heap.size 56 (.func (.yield l) #[] #[]) := by rw [← hV0]; exact Boxed.new V 56 _
  have z0 : V0.heap.size = V.heap.size + 1 := by rw [← hV0]; simp
  have BV := bt hV B0
  have d0 := hd.upto BV
  have E0 := boxed_upto hE BV hE.lt
  have F0 := boxed_upto hF BV hF.lt
  have R0 := hR.kept BV
  have j0 : J [] V0 := own_below hJ h0 B0
  obtain ⟨ea, ecap, rfl, hcap, hat⟩ := id R0
  have e0 := E0.cell
  have f0 := F0.cell
  have c6 := d0.c 6
  simp only [List.getElem?_toArray, List.getElem?_cons_zero, List.getElem?_cons_succ] at c6
  have hli : ((rl.length : Nat) : Int) ≤ 1000000 := by omega
  have HN := hide hN
  clear hN
  by_cases hz : rl.length = 0
  · have hzi : ((rl.length : Nat) : Int) = 0 := by omega
    have HJ := hide j0
    clear j0 hat hcap
    gi_wp2_with fail
    refine ⟨.tuple #[], by simp [results, Tryd.f94, go_sem], ⟨_, rfl⟩, .inl ⟨_, ?_, HJ.out⟩⟩
    rw [List.eq_nil_of_length_eq_zero hz]
    simp [markL, mkR]
  · have hzi : ¬ ((rl.length : Nat) : Int) = 0 := by omega
    have hzb : (((rl.length : Nat) : Int) == 0) = false := by simpa using hz
    have hmk := make_marks N hN2
    obtain ⟨V1, hV1⟩ : ∃ V1, (V0.alloc (.cells ((List.range N).map (fun _ => Value.bool false)).toArray 4)).alloc (.cells #[sl (V.heap.size + 1) N] 43) = V1 := ⟨_, rfl⟩
    have B1 : Below V0.heap.size V0 V1 := by rw [← hV1]; exact box2 _ _ _
    have z1 : V1.heap.size = V.heap.size + 3 := by rw [← hV1]; simp [z0]
    have M1 : Mks V1 (V.heap.size + 1) N (fun _ => false) := by
      rw [← hV1, ← z0]
      exact (made_marks N V0).upto (box1 _ _) (by simp)
    have X1 : Boxed V1 (V.heap.size + 1 + 1) 43 (sl (V.heap.size + 1) N) := by
      rw [← hV1]
      have := Boxed.new (V0.alloc (.cells ((List.range N).map (fun _ => Value.bool false)).toArray 4)) 43 (sl (V.heap.size + 1) N)
      rwa [World.size_alloc, z0] at this
    have E1 := boxed_upto E0 B1 E0.lt
    have e1 := E1.cell
    have HJ := hide j0
    have Hat := hide hat
    have HZ1 := hide z1
    clear j0 hat hcap z1
    gi_wp2_with fail
    clear hV1 hmk e1 e0 f0 c6 hV0
    refine wpIn_loop (fun a X => ∃ (i : Nat) (Ds : List Nat) (u6 u7 u22 u23 u24 u25 u26 u27 u28 u29 u30 u31 u32 u33 u34 u35 : Value), (i ≤ rl.length ∧ Lp V0 V1.heap.size (V.heap.size + 1 + 1) (V.heap.size + 1) N wd rl X i Ds) ∧ a = { tmps := #[.func (.yield l) #[] #[], ptr he, ptr hf, ptr V.heap.size, ptr (V.heap.size + 1 + 1), undef, u6, u7, undef, undef, .slice ea rl.length ecap, .int .i64 (rl.length : Nat), .bool false, ptr p, ptr p, .pointer (some ⟨p, 6, none⟩), sl b N, .int .i64 (N : Nat), sl (V.heap.size + 1) N, .slice ea rl.length ecap, .int .i64 (rl.length : Nat), .int .i64 (i : Nat), u22, u23, u24, u25, u26, u27, u28, u29, u30, u31, u32, u33, u34, u35, undef, undef, undef, undef, undef, undef, undef, undef, undef, undef, undef, undef, undef, undef, undef, undef, undef, undef, undef, undef, undef, undef, undef, undef, undef], defers := Ds.map mark }) (fun a _ => rl.length - (intOf (a.tmps.getD 21 undef)).toNat) ?start ?round
    case start =>
      refine ⟨0, [], undef, undef, undef, undef, undef, undef, undef, undef, undef, undef, undef, undef, undef, undef, undef, undef, ⟨Nat.zero_le _, ⟨⟨⟨B1, X1⟩, M1⟩, ⟨List.nodup_nil, by simp⟩, Nat.le_refl _⟩⟩, rfl⟩
    case round =>
      rintro a X ⟨i, Ds, u6, u7, u22, u23, u24, u25, u26, u27, u28, u29, u30, u31, u32, u33, u34, u35, ⟨hi, ⟨⟨hB, bX⟩, mX⟩, ⟨hnd, hDs⟩, hzX⟩, rfl⟩
      have HB := hide hB
      have dX := hd.upto (bt BV hB)
      have fX := (boxed_upto F0 hB F0.lt).cell
      have z1 := HZ1.out
      by_cases hlt : i < rl.length
      · obtain ⟨r, hr⟩ : ∃ r, rl[i]? = some r := ⟨_, List.getElem?_eq_getElem hlt⟩
        obtain ⟨g, rfl, hg, g0, g1, g2, g3⟩ := Hat.out i r hr
        have c0 := (hB.cell (p := ⟨g, i * 4, none⟩) hg).trans g0
        have c1 := (hB.cell (p := ⟨g, i * 4 + 1, none⟩) hg).trans g1
        have c2 := (hB.cell (p := ⟨g, i * 4 + 2, none⟩) hg).trans g2
        have c3 := (hB.cell (p := ⟨g, i * 4 + 3, none⟩) hg).trans g3
        have hii : (0 : Int) ≤ (i : Nat) ∧ ((i : Nat) : Int) < (rl.length : Nat) := by omega
        obtain ⟨x, y, a, c⟩ := r
        simp only at c0 c1 c2 c3
        obtain ⟨X2, hX2⟩ : ∃ X2, X.alloc (.cells #[.int .i64 x, .int .i64 y, .int .i64 a, .int .i64 c] 53) = X2 := ⟨_, rfl⟩
        have B2 : Below X.heap.size X X2 := by rw [← hX2]; exact box1 _ _
        have F2 : Four X2 X.heap.size x y a c := by rw [← hX2]; exact cells4 (Below.refl _ _)
        have f2 := (B2.cell (p := ⟨hf, 0, none⟩) (boxed_upto F0 hB F0.lt).lt).trans fX
        obtain ⟨⟨k0, k1, k2, k3⟩, -, -⟩ := id F2
        have hw1 := hwi _ (List.mem_of_getElem? hr)
        simp only at hw1
        have HRe := hide (reach_any x y a c (dX.upto B2) (gs_of hwd.1) (gs_of hwd.2) hw1)
        clear hB g0 g1 g2 g3 z1
        gi_wp2_with fail
        refine ⟨trivial, ?_⟩
        refine (callsIn_wide.2 HRe.out).mono ?_
        rintro e X3 ⟨rfl, hb3⟩
        clear c0 c1 c2 c3 k0 k1 k2 k3 f2 hX2 HRe
        obtain ⟨U, hU⟩ : ∃ U : Nat, max (x - 3) 0 = (U : Int) := ⟨(max (x - 3) 0).toNat, by omega⟩
        obtain ⟨Vv, hVv⟩ : ∃ U : Nat, max (y - 3) 0 = (U : Int) := ⟨(max (y - 3) 0).toNat, by omega⟩
        have hbd : (0 ≤ x ∧ 1 ≤ a ∧ x + a ≤ wd) ∧ 0 ≤ y ∧ 1 ≤ c ∧ y + c ≤ ht := by
          simp only [wi, Bool.and_eq_true] at hw1
          obtain ⟨q0, q1, q2⟩ := hw1
          have m0 := (may_iff _ _ _ _).1 q0
          have m1 := (has_iff _ _ _ _ _ _).1 q1
          have m2 := (has_iff _ _ _ _ _ _).1 q2
          omega
        obtain ⟨A, hA⟩ : ∃ A : Nat, x + a - (U : Int) = (A : Int) := ⟨(x + a - (U : Int)).toNat, by omega⟩
        obtain ⟨Bn, hBn⟩ : ∃ A : Nat, y + c - (Vv : Int) = (A : Int) := ⟨(y + c - (Vv : Int)).toNat, by omega⟩
        have hA1 : 1 ≤ A ∧ U + A ≤ wd := by omega
        have hB1 : 1 ≤ Bn ∧ Vv + Bn ≤ ht := by omega
        have HC := hide (fun k hk => cover (r := ⟨x, y, a, c⟩) (k := k) HN.out hA1.1 hA1.2 hB1.2 hU hVv hA hBn hk)
        rw [hU, hVv, hA, hBn]
        have hmy : may (U : Int) (Vv : Int) (A : Int) (Bn : Int) = true := by rw [may_iff]; omega
        clear hU hVv hA hBn hbd hw1
        gi_wp2_with fail
        refine ⟨trivial, ?_⟩
        refine (callsIn_wide.2 (cells_any _ _ _ _ _)).mono ?_
        rintro e X4 ⟨rfl, hX4⟩
        have zz3 := hb3.size
        have zz2 := B2.size
        have FC : Four X4 X3.heap.size U Vv A Bn := by rw [hX4]; exact cells4 (Below.refl _ _)
        have z4 : X4.heap.size = X3.heap.size + 1 := by rw [hX4]; simp
        have B4 : Below X.heap.size X X4 := by rw [hX4]; exact bt B2 (bt hb3 (box1 _ _))
        have HB4 : Below V0.heap.size V0 X4 := bt HB.out B4
        have b4 := boxed_upto bX B4 bX.lt
        have m4 := mX.upto B4 mX.lt
        have D4 : ∀ D ∈ Ds, V1.heap.size ≤ D ∧ X4.heap[D]? = some (.deferred (some [])) := fun D hD => ⟨(hDs D hD).1, (B4.block D (Array.getElem?_eq_some_iff.1 (hDs D hD).2).1).trans (hDs D hD).2⟩
        have hDl : ∀ D ∈ Ds, D < X4.heap.size := fun D hD => (Array.getElem?_eq_some_iff.1 (D4 D hD).2).1
        have zc := HZ1.out
        have zX4 := B4.size
        have z40 := HB4.size
        obtain ⟨C, hC⟩ : ∃ C, X3.heap.size = C := ⟨_, rfl⟩
        rw [hC] at FC z4 ⊢
        clear hX4 hC
        gi_wp2_with fail
        refine wpIn_rangeFunc_ownH rfl hn (gf := 81) (lb := #[ptr C]) rfl trivial (enters_of Tryd.func81 (by kernel_rfl) rfl)
          (cells_stopsF (n - 1) C U Vv A Bn X4 FC hmy) kB_t (kB_b (by omega)) (Below.refl _ _) (fun _ => rfl)
          (fun pre X' => (((Mks X' (V.heap.size + 1) N (fun k => mkR wd (rl.take i) k || pre.any (fun q => decide ((Vv + q.val / A) * wd + (U + q.val % A) = k))) ∧ Boxed X' (V.heap.size + 1 + 1) 43 (sl (V.heap.size + 1) N)) ∧ Below V0.heap.size V0 X') ∧ (∀ D ∈ Ds, V1.heap.size ≤ D ∧ X'.heap[D]? = some (.deferred (some [])))) ∧ X4.heap.size ≤ X'.heap.size)
          (fun c' pre X' => False)
          (OwnFrom.and (OwnFrom.and (OwnFrom.and (OwnFrom.and mks_own (Own.from (boxed_own _ _ _) _)) (ownFrom_below (Nat.le_refl _) (by omega))) (marks_own hDl)) (ownFrom_size _ _))
          (fun c' => ownFrom_pure _ _)
          ⟨⟨⟨⟨m4.congr (fun k _ => by simp), b4⟩, HB4⟩, D4⟩, Nat.le_refl _⟩
          (fun q a' X' => ∃ Bx, X4.heap.size ≤ Bx ∧ Two X' Bx ((U : Int) + (q.val % A : Nat)) ((Vv : Int) + (q.val / A : Nat)) ∧ a' = { tmps := #[.func (.yield l) #[] #[], ptr he, ptr hf, ptr V.heap.size, ptr (V.heap.size + 1 + 1), undef, ptr X.heap.size, ptr Bx, undef, undef, .slice (some ⟨g, 0, none⟩) rl.length ecap, .int .i64 (rl.length : Nat), .bool false, ptr p, ptr p, .pointer (some ⟨p, 6, none⟩), sl b N, .int .i64 (N : Nat), sl (V.heap.size + 1) N, .slice (some ⟨g, 0, none⟩) rl.length ecap, .int .i64 (rl.length : Nat), .int .i64 (i : Nat), .bool true, .pointer (some ⟨g, i * 4, none⟩), rct x y a c, ptr p, rct x y a c, rct U Vv A Bn, .func (.func 81) #[] #[ptr C], cel ((U : Int) + (q.val % A : Nat)) ((Vv : Int) + (q.val / A : Nat)), u30, u31, u32, u33, u34, u35, undef, undef, undef, undef, undef, undef, undef, undef, undef, undef, undef, undef, undef, undef, undef, undef, undef, undef, undef, undef, undef, undef, undef, undef, undef], defers := [] })
          (fun q a' _ X' Y row hs hg hr => by obtain ⟨Bx, e1, e2, e3⟩ := hs; exact ⟨Bx, e1, e2.own hg (fun r e => (hr r e).2), e3⟩)
          ?assign ?body ?done ?stop
        case assign =>
          rintro l' pre q X' K ⟨⟨⟨⟨hM, hbx⟩, hB'⟩, hD'⟩, hz'⟩ hK
          gi_wp2
          exact hK _ _ ((KeepsOthers.alloc _ _).from _) (kB_below (box1 X' _) (by omega)) ⟨⟨⟨⟨hM.upto (box1 _ _) hM.lt, hbx.alloc _⟩, hB'.alloc (by omega) _⟩, fun D hD => ⟨(hD' D hD).1, ((box1 X' _).block D (Array.getElem?_eq_some_iff.1 (hD' D hD).2).1).trans (hD' D hD).2⟩⟩, by simp; omega⟩ ⟨X'.heap.size, hz', Two.newAt rfl, rfl⟩
        case body =>
          rintro l' pre q a' X' hl' ⟨r', hr'⟩ ⟨⟨⟨⟨mX', bX'⟩, hB'⟩, hD'⟩, hz'⟩ ⟨Bx, hBx, T, rfl⟩ hlt'
          obtain ⟨k, hk⟩ : ∃ k : Nat, (Vv + q.val / A) * wd + (U + q.val % A) = k := ⟨_, rfl⟩
          have hqm : q.val % A < A := Nat.mod_lt _ hA1.1
          have hqd : q.val / A < Bn := by rw [Nat.div_lt_iff_lt_mul hA1.1]; exact q.isLt
          have hkN : k < N := by rw [HN.out, ← hk]; exact idx_lt (by omega) (by omega)
          have hkI : (0 : Int) ≤ (k : Nat) ∧ ((k : Nat) : Int) < (N : Nat) := by omega
          have dX' := hd.upto (bt BV hB')
          have HIx : Hid (∀ wx, Below X'.heap.size X' wx → Calls Tryd.prog 79 #[ptr p, cel ((U : Int) + (q.val % A : Nat)) ((Vv : Int) + (q.val / A : Nat))] wx fun e w' => e = .returned (.int .i64 (k : Nat)) ∧ Below wx.heap.size wx w') := hide fun wx hx => by
            refine findex_any _ _ (((Vv + q.val / A) * wd : Nat) : Int) k ?_ ?_ (dX'.upto hx)
            · rw [show ((Vv : Int) + (q.val / A : Nat)) * (wd : Int) = (((Vv + q.val / A) * wd : Nat) : Int) by push_cast; rfl, IntKind.wrap_i64]
              have : (Vv + q.val / A) * wd ≤ k := by omega
              omega
            · rw [IntKind.wrap_i64]; omega
          have HSx : Hid (∀ wx, Below X'.heap.size X' wx → (wx.cell? ⟨V.heap.size + 1 + 1, 0, none⟩ = some (sl (V.heap.size + 1) N) ∧ wx.cell? ⟨hf, 0, none⟩ = some (ptr p)) ∧ wx.cell? ⟨Bx, 0, none⟩ = some (.int .i64 ((U : Int) + (q.val % A : Nat))) ∧ wx.cell? ⟨Bx, 1, none⟩ = some (.int .i64 ((Vv : Int) + (q.val / A : Nat)))) := hide fun wx hx =>
            ⟨⟨(boxed_upto bX' hx bX'.lt).cell, (boxed_upto (boxed_upto F0 hB' F0.lt) hx (boxed_upto F0 hB' F0.lt).lt).cell⟩, (T.kept hx).1⟩
          obtain ⟨ux, hux⟩ : ∃ ux : Int, (U : Int) + (q.val % A : Nat) = ux := ⟨_, rfl⟩
          obtain ⟨vy, hvy⟩ : ∃ vy : Int, (Vv : Int) + (q.val / A : Nat) = vy := ⟨_, rfl⟩
          rw [hux, hvy] at HIx HSx ⊢
          clear hux hvy hqm hqd
          have hfl : hf < V.heap.size + 1 := by have := F0.lt; omega
          gi_wp2_with fail
          refine wpIn_only ?_
          refine wpIn_region_heldR (S := fun wx => (wx.cell? ⟨V.heap.size + 1 + 1, 0, none⟩ = some (sl (V.heap.size + 1) N) ∧ wx.cell? ⟨hf, 0, none⟩ = some (ptr p)) ∧ wx.cell? ⟨Bx, 0, none⟩ = some (.int .i64 ux) ∧ wx.cell? ⟨Bx, 1, none⟩ = some (.int .i64 vy)) only_in (by kernel_rfl) (by kernel_rfl) (HSx.out _ (Below.refl _ _).drew) (fun hHeld => ?_)
          refine wpAnyH_take (i := 0) (v := ?_) rfl (by kernel_rfl) (by kernel_rfl) (by kernel_rfl) (fun _ _ _ h => h.elim) (Or.inl ⟨by rfl, ?_⟩) (by assumption) ?_
          rotate_left
          · intro wx hSw
            try dsimp only at hSw
            go_simp
            try with_reducible rfl
          try simp only [Act.put, List.getElem_toArray, List.getElem_cons_zero, List.getElem_cons_succ, List.setIfInBounds_toArray, List.set_cons_zero, List.set_cons_succ]
          refine wpAnyH_take (i := 1) (v := ?_) rfl (by kernel_rfl) (by kernel_rfl) (by kernel_rfl) (fun _ _ _ h => h.elim) (Or.inl ⟨by rfl, ?_⟩) (by assumption) ?_
          rotate_left
          · intro wx hSw
            try dsimp only at hSw
            go_simp
            try with_reducible rfl
          try simp only [Act.put, List.getElem_toArray, List.getElem_cons_zero, List.getElem_cons_succ, List.setIfInBounds_toArray, List.set_cons_zero, List.set_cons_succ]
          refine wpAnyH_take (i := 2) (v := ?_) rfl (by kernel_rfl) (by kernel_rfl) (by kernel_rfl) (fun _ _ _ h => h.elim) (Or.inl ⟨by rfl, ?_⟩) (by assumption) ?_
          rotate_left
          · intro wx hSw
            try dsimp only at hSw
            go_simp
            try with_reducible rfl
          try simp only [Act.put, List.getElem_toArray, List.getElem_cons_zero, List.getElem_cons_succ, List.setIfInBounds_toArray, List.set_cons_zero, List.set_cons_succ]
          refine wpAnyH_ready (rs := [3]) (by kernel_rfl) (by simp) ?_
          refine AllReadyH.cons rfl (fun K hK => ?_) ?_
          · go_simp
            refine (HIx.out _ (Below.refl _ _).drew).mono ?_
            rintro e z1 ⟨rfl, s3⟩
            have hX1 : Below X'.heap.size X' z1 := below_undrew s3
            have m1 := (mX'.upto hX1 mX'.lt).cell hkN
            have f1 := (mX'.upto hX1 mX'.lt).f k
            clear s3
            try go_wp2_with fail
            refine hK.out _ _ ?_ (fun hHeld => ?_)
            · first | exact HSx.out _ (Below.refl _ _).drew | exact HSx.out _ hX1 | (obtain ⟨⟨q1, q2⟩, q3, q4⟩ := HSx.out _ hX1; exact ⟨⟨cell_other q1 (by omega), cell_other q2 (by omega)⟩, cell_other q3 (by omega), cell_other q4 (by omega)⟩)
            clear hK K
            try simp only [Act.put, List.getElem_toArray, List.getElem_cons_zero, List.getElem_cons_succ, List.setIfInBounds_toArray, List.set_cons_zero, List.set_cons_succ]
            refine wpAnyH_take (i := 4) (v := ?_) rfl (by kernel_rfl) (by kernel_rfl) (by kernel_rfl) (fun _ _ _ h => h.elim) (Or.inl ⟨by rfl, ?_⟩) (by assumption) ?_
            rotate_left
            · intro wx hSw
              try dsimp only at hSw
              go_simp
              try with_reducible rfl
            try simp only [Act.put, List.getElem_toArray, List.getElem_cons_zero, List.getElem_cons_succ, List.setIfInBounds_toArray, List.set_cons_zero, List.set_cons_succ]
            refine wpAnyH_ready (rs := [5]) (by kernel_rfl) (by simp) ?_
            refine AllReadyH.cons rfl (fun K hK => ?_) ?_
            · go_simp
              refine hK.out _ _ ?_ (fun hHeld => ?_)
              · first | exact HSx.out _ (Below.refl _ _).drew | exact HSx.out _ hX1 | (obtain ⟨⟨q1, q2⟩, q3, q4⟩ := HSx.out _ hX1; exact ⟨⟨cell_other q1 (by omega), cell_other q2 (by omega)⟩, cell_other q3 (by omega), cell_other q4 (by omega)⟩)
              clear hK K
              try simp only [Act.put, List.getElem_toArray, List.getElem_cons_zero, List.getElem_cons_succ, List.setIfInBounds_toArray, List.set_cons_zero, List.set_cons_succ]
              refine wpAnyH_done (by kernel_rfl) ?_ _
              dsimp only [Only, Exit.then]
              gi_wp2_with fail
              refine ⟨((keeps_below hX1).trans (KeepsOthers.setCell _ _ _)).from _, kB_t (kB_below hX1 (by omega)) (kB_set _ _ (by simp; omega)), ⟨⟨⟨⟨((mX'.upto hX1 mX'.lt).set hkN true).congr (fun j hj => ?_), (Below.heap_setCell _ _ _ _ (by simp)).trans (boxed_upto bX' hX1 bX'.lt)⟩, (bt hB' hX1).setCell (p := ⟨V.heap.size + 1, k, none⟩) (by simp; omega) _⟩, fun D hD => ⟨(hD' D hD).1, ?_⟩⟩, ?_⟩⟩
              · rw [List.any_append]
                by_cases hjk : j = k
                · simp [hjk, hk]
                · simp [hjk, hk, Ne.symm hjk]
              · have h1 := (hD' D hD).1
                refine (Below.heap_setCell _ _ _ _ (by simp; omega)).trans ?_
                exact (hX1.block D (Array.getElem?_eq_some_iff.1 (hD' D hD).2).1).trans (hD' D hD).2
              · have h1 := hX1.size
                simp [World.setCell]; omega
            exact AllReadyH.nil
          exact AllReadyH.nil
        case done =>
          rintro D xs X' hD rfl ⟨⟨⟨⟨mX', bX'⟩, hB'⟩, hD'⟩, hz'⟩ hK
          gi_wp2_with fail
          refine ⟨⟨i + 1, D :: Ds, _, _, _, _, _, _, _, _, _, _, _, _, _, _, _, _, ⟨by omega, ⟨⟨hB', bX'⟩, mX'.congr (fun k hk => ?_)⟩, ⟨List.nodup_cons.2 ⟨fun hm => ?_, hnd⟩, fun D' hm => ?_⟩, by omega⟩, rfl⟩, ?_⟩
          · rw [HC.out k hk, mkR, mkR, take_next _ hlt, List.any_append]
            have e : rl[i] = ⟨x, y, a, c⟩ := by
              have := hr
              rw [List.getElem?_eq_getElem hlt] at this
              exact Option.some.inj this
            simp [e]
          · have := hDl D hm
            omega
          · rcases List.mem_cons.1 hm with rfl | hm
            · exact ⟨by omega, hK⟩
            · exact hD' D' hm
          · simp [intOf]; omega
        case stop =>
          rintro D c' pre X' hD hpre hno hK
          exact hno.elim
      · obtain rfl : i = rl.length := by omega
        have bc := bX.cell
        have HJX : Hid (J [] X) := hide (own_below hJ HJ.out hB)
        have YX := boxed_upto Y0 hB Y0.lt
        have FX := boxed_upto F0 hB F0.lt
        clear hB z1
        gi_wp2_with fail
        refine ⟨trivial, ?_⟩
        refine (callsIn_wide.2 (back_any _ _ _)).mono ?_
        rintro e X5 ⟨rfl, hX5⟩
        have B5 : Below X.heap.size X X5 := by rw [hX5]; exact box1 _ _
        have z5 : X5.heap.size = X.heap.size + 1 := by rw [hX5]; simp
        have K5 : Boxed X5 X.heap.size 43 (sl (V.heap.size + 1) N) := by rw [hX5]; exact Boxed.new X 43 _
        have M5 : Mks X5 (V.heap.size + 1) N (mkR wd rl) := by
          have := mX.upto B5 mX.lt
          rwa [List.take_of_length_le (Nat.le_refl _)] at this
        have D5 : ∀ D ∈ Ds, V1.heap.size ≤ D ∧ X5.heap[D]? = some (.deferred (some [])) := fun D hD => ⟨(hDs D hD).1, (B5.block D (Array.getElem?_eq_some_iff.1 (hDs D hD).2).1).trans (hDs D hD).2⟩
        have hDl : ∀ D ∈ Ds, D < X5.heap.size := fun D hD => (Array.getElem?_eq_some_iff.1 (D5 D hD).2).1
        have zc := HZ1.out
        have zp := hd.lt
        have zf := hF.lt
        have zV := hV.size
        have zB := HB.out.size
        clear hX5 bc
        gi_wp2_with fail
        refine wpIn_rangeFunc_ownH rfl hn (gf := 102) (lb := #[ptr X.heap.size]) rfl trivial (enters_of Tryd.func102 (by kernel_rfl) rfl)
          (back_stops (n - 1) X.heap.size (V.heap.size + 1) N (mkR wd rl) X5 hN2 K5 M5) kB2_t (fun W l o o' h1 h2 h3 h4 => ⟨kB_b (w := X5) (by omega) W l o o' h1 h2 h3 h4, kB_b (w := X5) (by omega) W l o o' h1 h2 h3 h4⟩) (Below.refl _ _) (fun _ => rfl)
          (fun pre X' => (((J (filt pre) X' ∧ Boxed X' V.heap.size 56 (.func (.yield l) #[] #[])) ∧ (Boxed X' hf 58 (ptr p) ∧ Fd X' p q cl wd ht b N ep)) ∧ (∀ D ∈ Ds, V1.heap.size ≤ D ∧ X'.heap[D]? = some (.deferred (some [])))) ∧ X5.heap.size ≤ X'.heap.size)
          (fun c' pre X' => (c' = .ret ∧ Jx (filt pre) X') ∧ (∀ D ∈ Ds, V1.heap.size ≤ D ∧ X'.heap[D]? = some (.deferred (some []))))
          (OwnFrom.and (OwnFrom.and (OwnFrom.and (OwnFrom.and (own_map (own_wide hJ (by omega)) filt) (Own.from (boxed_own _ _ _) _)) (OwnFrom.and (Own.from (boxed_own _ _ _) _) block_own)) (marks_own hDl)) (ownFrom_size _ _))
          (fun c' => OwnFrom.and (OwnFrom.and (ownFrom_pure _ _) (own_map (own_wide hJx (by omega)) filt)) (marks_own hDl))
          ⟨⟨⟨⟨own_below hJ HJX.out B5, boxed_upto YX B5 YX.lt⟩, boxed_upto FX B5 FX.lt, dX.upto B5⟩, D5⟩, Nat.le_refl _⟩
          (fun q a' X' => a' = { tmps := #[.func (.yield l) #[] #[], ptr he, ptr hf, ptr V.heap.size, ptr (V.heap.size + 1 + 1), undef, u6, u7, .int .i64 (q.1.val : Nat), .bool q.2, .slice ea rl.length ecap, .int .i64 (rl.length : Nat), .bool false, ptr p, ptr p, .pointer (some ⟨p, 6, none⟩), sl b N, .int .i64 (N : Nat), sl (V.heap.size + 1) N, .slice ea rl.length ecap, .int .i64 (rl.length : Nat), .int .i64 (rl.length : Nat), .bool false, u23, u24, u25, u26, u27, u28, u29, u30, u31, u32, u33, u34, u35, sl (V.heap.size + 1) N, .func (.func 102) #[] #[ptr X.heap.size], .int .i64 (q.1.val : Nat), .bool q.2, undef, undef, undef, undef, undef, undef, undef, undef, undef, undef, undef, undef, undef, undef, undef, undef, undef, undef, undef, undef, undef], defers := [] })
          (fun q a' _ X' Y row hs hg hr => hs)
          ?assign ?body ?done ?stop
        case assign =>
          rintro l' pre q X' K hI hK
          gi_wp2
          exact hK _ _ ((KeepsOthers.refl _).from _) ⟨rfl, rfl⟩ hI rfl
        case body =>
          rintro l' pre ⟨⟨k, hk⟩, v⟩ a' X' hl' ⟨r', hr'⟩ ⟨⟨⟨⟨hJX, bY⟩, bF, dX'⟩, hD'⟩, hz'⟩ rfl hlt'
          have hne := lat_some X'
          cases v
          · have Hf : Hid (filt (pre ++ [(⟨k, hk⟩, false)]) = filt pre) := hide (by rw [filt_snoc]; simp)
            have HJ' := hide hJX
            clear hJX
            gi_wp2_with fail
            refine wpIn_region_lat (by kernel_rfl) (by kernel_rfl) (by kernel_rfl) ?_
            repeat (refine wpQuietIn_step (fun _ _ _ _ => trivial) (fun K hK => ?_); go_simp; refine hK _ ?_; clear hK K)
            refine wpQuietIn_nil ?_
            rintro _ ⟨m, rfl⟩
            gi_wp2_with fail
            refine ⟨(keeps_below m.h).from _, ⟨kB_below m.h (by omega), kB_below m.h (by omega)⟩, ⟨⟨⟨⟨?_, boxed_upto bY m.h bY.lt⟩, boxed_upto bF m.h bF.lt, dX'.upto m.h⟩, fun D hD => ⟨(hD' D hD).1, (m.h.block D (Array.getElem?_eq_some_iff.1 (hD' D hD).2).1).trans (hD' D hD).2⟩⟩, Nat.le_trans hz' m.h.size⟩⟩
            rw [Hf.out]
            exact own_below hJ HJ'.out m.h
          · have Hf : Hid (filt (pre ++ [(⟨k, hk⟩, true)]) = filt pre ++ [⟨k, hk⟩]) := hide (by rw [filt_snoc]; simp)
            obtain ⟨fn, tmps, asg, bd, hy, hR⟩ := hY (filt pre) ⟨k, hk⟩ X'.drew (own_below hJ hJX (Below.refl _ _).drew) (Nat.lt_of_le_of_lt (filt_len pre) hlt')
            dsimp only [encK] at hy
            have hrem : (k : Int).tmod (wd : Int) = ((k % wd : Nat) : Int) := rfl
            have hquo : IntKind.i64.wrap ((k : Int) / (wd : Int)) = ((k / wd : Nat) : Int) := by
              rw [← Int.natCast_ediv]
              exact wrap_nat (Nat.le_trans (Nat.div_le_self k wd) (by omega))
            have hwd0 : ¬ wd = 0 := by omega
            obtain ⟨kx, hkx⟩ : ∃ kx : Int, ((k % wd : Nat) : Int) = kx := ⟨_, rfl⟩
            obtain ⟨ky, hky⟩ : ∃ ky : Int, ((k / wd : Nat) : Int) = ky := ⟨_, rfl⟩
            rw [hkx] at hrem hy
            rw [hky] at hquo hy
            clear hkx hky
            have cY := bY.cell
            have cF := bF.cell
            have c4 := dX'.c 4
            simp only [List.getElem?_toArray, List.getElem?_cons_zero, List.getElem?_cons_succ] at c4
            have hkI : (0 : Int) ≤ (k : Nat) ∧ ((k : Nat) : Int) < (N : Nat) := by omega
            have hwI : (1 : Int) ≤ (wd : Nat) ∧ ((wd : Nat) : Int) ≤ 128 := by omega
            clear hJX
            gi_wp2_with fail
            refine wpIn_only ?_
            refine wpIn_region_goes (S := fun wx => (wx.cell? ⟨V.heap.size, 0, none⟩ = some (.func (.yield l) #[] #[]) ∧ wx.cell? ⟨hf, 0, none⟩ = some (ptr p)) ∧ wx.cell? ⟨p, 4, none⟩ = some (.int .i64 (wd : Nat))) (by kernel_rfl) ?_
            have hHeld : (X'.drew.cell? ⟨V.heap.size, 0, none⟩ = some (.func (.yield l) #[] #[]) ∧ X'.drew.cell? ⟨hf, 0, none⟩ = some (ptr p)) ∧ X'.drew.cell? ⟨p, 4, none⟩ = some (.int .i64 (wd : Nat)) := ⟨⟨cY, cF⟩, c4⟩
            clear cY cF c4
            refine GoesR.take (i := 0) (v := ?_) rfl (by kernel_rfl) (by kernel_rfl) (by kernel_rfl) (by kernel_rfl) (Or.inl ⟨by rfl, ?_⟩) (by assumption) ?_
            rotate_left
            · intro wx hSw
              try dsimp only at hSw
              go_simp
              try with_reducible rfl
            try simp only [Act.put, List.getElem_toArray, List.getElem_cons_zero, List.getElem_cons_succ, List.setIfInBounds_toArray, List.set_cons_zero, List.set_cons_succ]
            refine GoesR.take (i := 1) (v := ?_) rfl (by kernel_rfl) (by kernel_rfl) (by kernel_rfl) (by kernel_rfl) (Or.inl ⟨by rfl, ?_⟩) (by assumption) ?_
            rotate_left
            · intro wx hSw
              try dsimp only at hSw
              go_simp
              try with_reducible rfl
            try simp only [Act.put, List.getElem_toArray, List.getElem_cons_zero, List.getElem_cons_succ, List.setIfInBounds_toArray, List.set_cons_zero, List.set_cons_succ]
            refine GoesR.take (i := 2) (v := ?_) rfl (by kernel_rfl) (by kernel_rfl) (by kernel_rfl) (by kernel_rfl) (Or.inl ⟨by rfl, ?_⟩) (by assumption) ?_
            rotate_left
            · intro wx hSw
              try dsimp only at hSw
              go_simp
              try with_reducible rfl
            try simp only [Act.put, List.getElem_toArray, List.getElem_cons_zero, List.getElem_cons_succ, List.setIfInBounds_toArray, List.set_cons_zero, List.set_cons_succ]
            refine GoesR.take (i := 3) (v := ?_) rfl (by kernel_rfl) (by kernel_rfl) (by kernel_rfl) (by kernel_rfl) (Or.inl ⟨by rfl, ?_⟩) (by assumption) ?_
            rotate_left
            · intro wx hSw
              try dsimp only at hSw
              go_simp
              try with_reducible rfl
            try simp only [Act.put, List.getElem_toArray, List.getElem_cons_zero, List.getElem_cons_succ, List.setIfInBounds_toArray, List.set_cons_zero, List.set_cons_succ]
            refine GoesR.take (i := 4) (v := ?_) rfl (by kernel_rfl) (by kernel_rfl) (by kernel_rfl) (by kernel_rfl) (Or.inl ⟨by rfl, ?_⟩) (by assumption) ?_
            rotate_left
            · intro wx hSw
              try dsimp only at hSw
              go_simp
              try with_reducible rfl
            try simp only [Act.put, List.getElem_toArray, List.getElem_cons_zero, List.getElem_cons_succ, List.setIfInBounds_toArray, List.set_cons_zero, List.set_cons_succ]
            refine GoesR.take (i := 5) (v := ?_) rfl (by kernel_rfl) (by kernel_rfl) (by kernel_rfl) (by kernel_rfl) (Or.inl ⟨by rfl, ?_⟩) (by assumption) ?_
            rotate_left
            · intro wx hSw
              try dsimp only at hSw
              go_simp
              try with_reducible rfl
            try simp only [Act.put, List.getElem_toArray, List.getElem_cons_zero, List.getElem_cons_succ, List.setIfInBounds_toArray, List.set_cons_zero, List.set_cons_succ]
            refine GoesR.take (i := 6) (v := ?_) rfl (by kernel_rfl) (by kernel_rfl) (by kernel_rfl) (by kernel_rfl) (Or.inl ⟨by rfl, ?_⟩) (by assumption) ?_
            rotate_left
            · intro wx hSw
              try dsimp only at hSw
              go_simp
              try with_reducible rfl
            try simp only [Act.put, List.getElem_toArray, List.getElem_cons_zero, List.getElem_cons_succ, List.setIfInBounds_toArray, List.set_cons_zero, List.set_cons_succ]
            refine GoesR.take (i := 7) (v := ?_) rfl (by kernel_rfl) (by kernel_rfl) (by kernel_rfl) (by kernel_rfl) (Or.inl ⟨by rfl, ?_⟩) (by assumption) ?_
            rotate_left
            · intro wx hSw
              try dsimp only at hSw
              go_simp
              try with_reducible rfl
            try simp only [Act.put, List.getElem_toArray, List.getElem_cons_zero, List.getElem_cons_succ, List.setIfInBounds_toArray, List.set_cons_zero, List.set_cons_succ]
            refine GoesR.take (i := 8) (v := ?_) rfl (by kernel_rfl) (by kernel_rfl) (by kernel_rfl) (by kernel_rfl) (Or.inl ⟨by rfl, ?_⟩) (by assumption) ?_
            rotate_left
            · intro wx hSw
              try dsimp only at hSw
              go_simp
              try with_reducible rfl
            try simp only [Act.put, List.getElem_toArray, List.getElem_cons_zero, List.getElem_cons_succ, List.setIfInBounds_toArray, List.set_cons_zero, List.set_cons_succ]
            refine GoesR.take (i := 9) (v := ?_) rfl (by kernel_rfl) (by kernel_rfl) (by kernel_rfl) (by kernel_rfl) (Or.inl ⟨by rfl, ?_⟩) (by assumption) ?_
            rotate_left
            · intro wx hSw
              try dsimp only at hSw
              go_simp
              try with_reducible rfl
            try simp only [Act.put, List.getElem_toArray, List.getElem_cons_zero, List.getElem_cons_succ, List.setIfInBounds_toArray, List.set_cons_zero, List.set_cons_succ]
            refine GoesR.take (i := 10) (v := ?_) rfl (by kernel_rfl) (by kernel_rfl) (by kernel_rfl) (by kernel_rfl) (Or.inl ⟨by rfl, ?_⟩) (by assumption) ?_
            rotate_left
            · intro wx hSw
              try dsimp only at hSw
              go_simp
              try with_reducible rfl
            try simp only [Act.put, List.getElem_toArray, List.getElem_cons_zero, List.getElem_cons_succ, List.setIfInBounds_toArray, List.set_cons_zero, List.set_cons_succ]
            refine GoesR.take (i := 11) (v := ?_) rfl (by kernel_rfl) (by kernel_rfl) (by kernel_rfl) (by kernel_rfl) (Or.inl ⟨by rfl, ?_⟩) (by assumption) ?_
            rotate_left
            · intro wx hSw
              try dsimp only at hSw
              go_simp
              try with_reducible rfl
            try simp only [Act.put, List.getElem_toArray, List.getElem_cons_zero, List.getElem_cons_succ, List.setIfInBounds_toArray, List.set_cons_zero, List.set_cons_succ]
            refine GoesR.take (i := 12) (v := ?_) rfl (by kernel_rfl) (by kernel_rfl) (by kernel_rfl) (by kernel_rfl) (Or.inl ⟨by rfl, ?_⟩) (by assumption) ?_
            rotate_left
            · intro wx hSw
              try dsimp only at hSw
              go_simp
              try with_reducible rfl
            try simp only [Act.put, List.getElem_toArray, List.getElem_cons_zero, List.getElem_cons_succ, List.setIfInBounds_toArray, List.set_cons_zero, List.set_cons_succ]
            refine GoesR.take (i := 13) (v := ?_) rfl (by kernel_rfl) (by kernel_rfl) (by kernel_rfl) (by kernel_rfl) (Or.inl ⟨by rfl, ?_⟩) (by assumption) ?_
            rotate_left
            · intro wx hSw
              try dsimp only at hSw
              go_simp
              try with_reducible rfl
            try simp only [Act.put, List.getElem_toArray, List.getElem_cons_zero, List.getElem_cons_succ, List.setIfInBounds_toArray, List.set_cons_zero, List.set_cons_succ]
            refine GoesR.take (i := 14) (v := ?_) rfl (by kernel_rfl) (by kernel_rfl) (by kernel_rfl) (by kernel_rfl) (Or.inl ⟨by rfl, ?_⟩) (by assumption) ?_
            rotate_left
            · intro wx hSw
              try dsimp only at hSw
              go_simp
              try with_reducible rfl
            try simp only [Act.put, List.getElem_toArray, List.getElem_cons_zero, List.getElem_cons_succ, List.setIfInBounds_toArray, List.set_cons_zero, List.set_cons_succ]
            refine GoesR.take (i := 15) (v := ?_) rfl (by kernel_rfl) (by kernel_rfl) (by kernel_rfl) (by kernel_rfl) (Or.inl ⟨by rfl, ?_⟩) (by assumption) ?_
            rotate_left
            · intro wx hSw
              try dsimp only at hSw
              go_simp
              try with_reducible rfl
            try simp only [Act.put, List.getElem_toArray, List.getElem_cons_zero, List.getElem_cons_succ, List.setIfInBounds_toArray, List.set_cons_zero, List.set_cons_succ]
            refine GoesR.take (i := 16) (v := ?_) rfl (by kernel_rfl) (by kernel_rfl) (by kernel_rfl) (by kernel_rfl) (Or.inl ⟨by rfl, ?_⟩) (by assumption) ?_
            rotate_left
            · intro wx hSw
              try dsimp only at hSw
              go_simp
              try with_reducible rfl
            try simp only [Act.put, List.getElem_toArray, List.getElem_cons_zero, List.getElem_cons_succ, List.setIfInBounds_toArray, List.set_cons_zero, List.set_cons_succ]
            refine GoesR.take (i := 17) (v := ?_) rfl (by kernel_rfl) (by kernel_rfl) (by kernel_rfl) (by kernel_rfl) (Or.inl ⟨by rfl, ?_⟩) (by assumption) ?_
            rotate_left
            · intro wx hSw
              try dsimp only at hSw
              go_simp
              try with_reducible rfl
            try simp only [Act.put, List.getElem_toArray, List.getElem_cons_zero, List.getElem_cons_succ, List.setIfInBounds_toArray, List.set_cons_zero, List.set_cons_succ]
            refine GoesR.one (i := 18) (by kernel_rfl) rfl (fun K hK => ?_)
            go_simp
            refine ⟨fun h => (by cases h), ?_⟩
            refine (round_any _ hR).mono ?_
            rintro e Y ⟨hkp, (⟨rfl, hJ3, hk3⟩ | ⟨rfl, hJ3, hk3⟩)⟩
            · have hHeld : (Y.cell? ⟨V.heap.size, 0, none⟩ = some (.func (.yield l) #[] #[]) ∧ Y.cell? ⟨hf, 0, none⟩ = some (ptr p)) ∧ Y.cell? ⟨p, 4, none⟩ = some (.int .i64 (wd : Nat)) := ⟨⟨Boxed.cell (t := 56) (hkp.at (Nat.le_refl _) bY), Boxed.cell (t := 58) (hk3.2.trans bF)⟩, Fd.c (q := q) (cl := cl) (W := wd) (H := ht) (b := b) (n := N) (ep := ep) (hk3.1.trans dX') 4⟩
              have hkp' : Keep V.heap.size X' Y := ⟨hkp.1, hkp.2⟩
              have hDY : ∀ D ∈ Ds, V1.heap.size ≤ D ∧ Y.heap[D]? = some (.deferred (some [])) := fun D hD => ⟨(hD' D hD).1, hkp'.at (by have := (hD' D hD).1; omega) (hD' D hD).2⟩
              have HJ3 := hide hJ3
              clear hJ3 hR hy
              refine hK.out _ _ hHeld ?_
              clear hK K
              try simp only [Act.put, List.getElem_toArray, List.getElem_cons_zero, List.getElem_cons_succ, List.setIfInBounds_toArray, List.set_cons_zero, List.set_cons_succ]
              refine GoesR.take (i := 19) (v := ?_) rfl (by kernel_rfl) (by kernel_rfl) (by kernel_rfl) (by kernel_rfl) (Or.inl ⟨by rfl, ?_⟩) (by assumption) ?_
              rotate_left
              · intro wx hSw
                try dsimp only at hSw
                go_simp
                try with_reducible rfl
              try simp only [Act.put, List.getElem_toArray, List.getElem_cons_zero, List.getElem_cons_succ, List.setIfInBounds_toArray, List.set_cons_zero, List.set_cons_succ]
              refine GoesR.take (i := 20) (v := ?_) rfl (by kernel_rfl) (by kernel_rfl) (by kernel_rfl) (by kernel_rfl) (Or.inl ⟨by rfl, ?_⟩) (by assumption) ?_
              rotate_left
              · intro wx hSw
                try dsimp only at hSw
                go_simp
                try with_reducible rfl
              try simp only [Act.put, List.getElem_toArray, List.getElem_cons_zero, List.getElem_cons_succ, List.setIfInBounds_toArray, List.set_cons_zero, List.set_cons_succ]
              refine GoesR.done (by kernel_rfl) ?_ _
              dsimp only [Only, Exit.then]
              gi_wp2_with fail
              refine ⟨(hkp'.mono (by omega)).from, ⟨hkp'.2 _ (by omega) (by omega), hkp'.2 _ (by omega) (by omega)⟩, ⟨⟨⟨⟨?_, hkp'.at (Nat.le_refl _) bY⟩, hk3.2.trans bF, hk3.1.trans dX'⟩, hDY⟩, Nat.le_trans hz' hkp'.1⟩⟩
              rw [Hf.out]
              exact HJ3.out
            · have hHeld : (Y.cell? ⟨V.heap.size, 0, none⟩ = some (.func (.yield l) #[] #[]) ∧ Y.cell? ⟨hf, 0, none⟩ = some (ptr p)) ∧ Y.cell? ⟨p, 4, none⟩ = some (.int .i64 (wd : Nat)) := ⟨⟨Boxed.cell (t := 56) (hkp.at (Nat.le_refl _) bY), Boxed.cell (t := 58) (hk3.2.trans bF)⟩, Fd.c (q := q) (cl := cl) (W := wd) (H := ht) (b := b) (n := N) (ep := ep) (hk3.1.trans dX') 4⟩
              have hkp' : Keep V.heap.size X' Y := ⟨hkp.1, hkp.2⟩
              have hDY : ∀ D ∈ Ds, V1.heap.size ≤ D ∧ Y.heap[D]? = some (.deferred (some [])) := fun D hD => ⟨(hD' D hD).1, hkp'.at (by have := (hD' D hD).1; omega) (hD' D hD).2⟩
              have HJ3 := hide hJ3
              clear hJ3 hR hy
              refine hK.out _ _ hHeld ?_
              clear hK K
              try simp only [Act.put, List.getElem_toArray, List.getElem_cons_zero, List.getElem_cons_succ, List.setIfInBounds_toArray, List.set_cons_zero, List.set_cons_succ]
              refine GoesR.take (i := 19) (v := ?_) rfl (by kernel_rfl) (by kernel_rfl) (by kernel_rfl) (by kernel_rfl) (Or.inl ⟨by rfl, ?_⟩) (by assumption) ?_
              rotate_left
              · intro wx hSw
                try dsimp only at hSw
                go_simp
                try with_reducible rfl
              try simp only [Act.put, List.getElem_toArray, List.getElem_cons_zero, List.getElem_cons_succ, List.setIfInBounds_toArray, List.set_cons_zero, List.set_cons_succ]
              refine GoesR.take (i := 20) (v := ?_) rfl (by kernel_rfl) (by kernel_rfl) (by kernel_rfl) (by kernel_rfl) (Or.inl ⟨by rfl, ?_⟩) (by assumption) ?_
              rotate_left
              · intro wx hSw
                try dsimp only at hSw
                go_simp
                try with_reducible rfl
              try simp only [Act.put, List.getElem_toArray, List.getElem_cons_zero, List.getElem_cons_succ, List.setIfInBounds_toArray, List.set_cons_zero, List.set_cons_succ]
              refine GoesR.done (by kernel_rfl) ?_ _
              dsimp only [Only, Exit.then]
              gi_wp2_with fail
              refine ⟨(hkp'.mono (by omega)).from, ⟨rfl, ?_⟩, hDY⟩
              rw [Hf.out]
              exact HJ3.out
        case done =>
          rintro D xs X' hD rfl ⟨⟨⟨⟨hJX, bY⟩, bF, dX'⟩, hD'⟩, hz'⟩ hK
          have HE := hide hJX
          rw [filt_back] at HE
          clear hJX
          gi_wp2_with fail
          refine leave_marks (c := V1.heap.size) (fun X'' => J (markL N wd rl) X'') (fun X'' D' h1 h2 h3 => hJ.putObj _ h3 (by omega) h2 rfl) (fun X'' h => ⟨.tuple #[], by simp [results, Tryd.f94, go_sem], ⟨_, rfl⟩, .inl ⟨_, rfl, h⟩⟩) (D :: Ds) X' (List.nodup_cons.2 ⟨fun hm => by have := hDl D hm; omega, hnd⟩) (fun D' hm => ?_) HE.out
          rcases List.mem_cons.1 hm with rfl | hm
          · exact ⟨by omega, hK⟩
          · exact hD' D' hm
        case stop =>
          rintro D c' pre X' hD hpre ⟨⟨rfl, hJX⟩, hD'⟩ hK
          have HE := hide hJX
          have HP := hide (filt_pre hpre)
          rw [filt_back] at HP
          clear hJX
          gi_wp2
          refine leave_marks (c := V1.heap.size) (fun X'' => Jx (filt pre) X'') (fun X'' D' h1 h2 h3 => hJx.putObj _ h3 (by omega) h2 rfl) (fun X'' h => ⟨.tuple #[], by simp [results, Tryd.f94, go_sem], ⟨_, rfl⟩, .inr ⟨_, HP.out, h⟩⟩) (D :: Ds) X' (List.nodup_cons.2 ⟨fun hm => by have := hDl D hm; omega, hnd⟩) (fun D' hm => ?_) HE.out
          rcases List.mem_cons.1 hm with rfl | hm
          · exact ⟨by omega, hK⟩
          · exact hD' D' hm
end Go.Proofs.YtoheibfijpdmfaaDoor
set_option linter.unusedSimpArgs false
namespace Go.Proofs.YtoheibfijpdmfaaDoor
open Go.RowKit Go.Shelf
set_option linter.unusedVariables false
attribute [local go_sem] Oper.semAt_some
theorem reached_any (p : Nat) (a : Option Addr) (n c : Nat) (w : World) : Calls Tryd.prog 78 #[ptr p, .slice a n c] w fun e w' => e = .returned (.func (.func 94) #[] #[ptr (w.heap.size + 1), ptr w.heap.size]) ∧ w' = (w.alloc (.cells #[ptr p] 58)).alloc (.cells #[.slice a n c] 87) := by
  go_enter Tryd.func78, Tryd.ntmps78
  go_wp2_with fail
  go_ret
  exact ⟨rfl, rfl⟩
/-- What some cells reckoned anew make of a list, and how many turned. -/
def stL (car : Int → Int → Bool) (wd ht : Nat) {N : Nat} (l : List Nat) (pre : List (Fin N)) : List Nat × Nat := (pre.map Fin.val).foldl (stp car wd ht) (l, 0)
theorem stL_nil (car : Int → Int → Bool) (wd ht : Nat) {N : Nat} (l : List Nat) : stL car wd ht l ([] : List (Fin N)) = (l, 0) := rfl
theorem stL_snoc (car : Int → Int → Bool) (wd ht : Nat) {N : Nat} (l : List Nat) (pre : List (Fin N)) (k : Fin N) : stL car wd ht l (pre ++ [k]) = stp car wd ht (stL car wd ht l pre) k.val := by
  simp [stL]
theorem stL_len (car : Int → Int → Bool) (wd ht : Nat) {N : Nat} (l : List Nat) (pre : List (Fin N)) : (stL car wd ht l pre).1.length = l.length ∧ (stL car wd ht l pre).2 ≤ pre.length := by
  suffices H : ∀ (m : List (Fin N)) (x : List Nat × Nat), ((m.map Fin.val).foldl (stp car wd ht) x).1.length = x.1.length ∧ ((m.map Fin.val).foldl (stp car wd ht) x).2 ≤ x.2 + m.length by
    have := H pre (l, 0)
    simpa [stL] using this
  intro m
  induction m with
  | nil => intro x; simp
  | cons k m ih =>
    intro x
    have := ih (stp car wd ht x k.val)
    simp only [List.map_cons, List.foldl_cons, List.length_cons]
    refine ⟨this.1.trans (by simp [stp]), Nat.le_trans this.2 ?_⟩
    unfold stp
    simp only
    split <;> omega
theorem stp_bytes {car : Int → Int → Bool} {wd ht : Nat} {x : List Nat × Nat} {k : Nat} (h : ∀ u ∈ x.1, u < 256) : ∀ u ∈ (stp car wd ht x k).1, u < 256 := by
  intro u hu
  unfold stp at hu
  simp only at hu
  rcases List.mem_or_eq_of_mem_set hu with h1 | h1
  · exact h u h1
  · have := grw_le (car ((k % wd : Nat) : Int) ((k / wd : Nat) : Int)) (atL wd ht x.1 (((k % wd : Nat) : Int) + 1) ((k / wd : Nat) : Int)) (atL wd ht x.1 ((k % wd : Nat) : Int) (((k / wd : Nat) : Int) + 1)) (atL wd ht x.1 (((k % wd : Nat) : Int) + 1) (((k / wd : Nat) : Int) + 1))
    rw [h1]
    unfold grL
    omega
theorem stL_bytes (car : Int → Int → Bool) (wd ht : Nat) {N : Nat} {l : List Nat} (h : ∀ u ∈ l, u < 256) (pre : List (Fin N)) : ∀ u ∈ (stL car wd ht l pre).1, u < 256 := by
  suffices H : ∀ (m : List (Fin N)) (x : List Nat × Nat), (∀ u ∈ x.1, u < 256) → ∀ u ∈ ((m.map Fin.val).foldl (stp car wd ht) x).1, u < 256 from H pre (l, 0) h
  intro m
  induction m with
  | nil => intro x hx; simpa using hx
  | cons k m ih => intro x hx; exact ih _ (stp_bytes hx)
theorem szs_own {β : Type} {B b : Nat} {F : β → List Nat} : OwnFrom B (fun (s : β) W => Szs W b (F s)) := fun s X Y row hs hg hr => by
  refine (hg.block b hs.lt (fun e => ?_)).trans hs
  obtain ⟨-, o, ho, hc⟩ := hr b e.symm
  rw [show X.heap[b]? = _ from hs] at ho
  cases ho
  cases hc
theorem rng (t : Nat) (h : t < 128) : (0 : Int) ≤ (t : Int) ∧ (t : Int) < 128 := by omega
theorem set_self {l : List Nat} {k g : Nat} (h : l[k]? = some g) : l.set k g = l := by
  obtain ⟨h1, h2⟩ := List.getElem?_eq_some_iff.1 h
  subst h2
  exact List.set_getElem_self h1
set_option maxRecDepth 100000 in
set_option maxHeartbeats 8000000 in
theorem reckon_any (p q b N : Nat) (cl ep : Int) (wd ht : Nat) (l : List Nat) (tl : List Nat) (f : Int → Int → Option Int) (ev : Value) (rl : List Rc) (w : World) (hwd : (1 ≤ wd ∧ wd ≤ 128) ∧ 1 ≤ ht ∧ ht ≤ 128) (hN : N = wd * ht)
    (hd : Fd w p q cl wd ht b N ep) (hs : Szs w b l) (hl : l.length = N) (hb : ∀ u ∈ l, u < 256) (hE : ∀ X, Turns (fun k => k = b) w X → Wl X q wd ht tl f ∧ Grnd X ∧ Offs X)
    (hR : RcB w ev rl) (hrl : rl.length ≤ 1000000) (hwi : ∀ r ∈ rl, wi r.x r.y r.a r.b 0 0 wd ht = true) :
    Calls Tryd.prog 51 #[ptr p, ev] w fun e w' => e = .returned (.int .i64 ((stL (carB wd ht tl f cl) wd ht l (markL N wd rl)).2 : Nat)) ∧ Szs w' b (stL (carB wd ht tl f cl) wd ht l (markL N wd rl)).1 ∧ Turns (fun k => k = b) w w' := by
  obtain ⟨ea, ecap, hev, hcap, -⟩ := id hR
  obtain ⟨w0, hw0⟩ : ∃ w0, (w.alloc (.cells #[ptr p] 58)).alloc (.cells #[.int .i64 0] 3) = w0 := ⟨_, rfl⟩
  have B0 : Below w.heap.size w w0 := by rw [← hw0]; exact box2 _ _ _
  have z0 : w0.heap.size = w.heap.size + 2 := by rw [← hw0]; simp
  have P0 : Boxed w0 w.heap.size 58 (ptr p) := by rw [← hw0]; exact (Boxed.new w 58 (ptr p)).alloc _
  have T0 : Boxed w0 (w.heap.size + 1) 3 (.int .i64 0) := by
    rw [← hw0]
    have := Boxed.new (w.alloc (.cells #[ptr p] 58)) 3 (.int .i64 0)
    simpa using this
  have HZ := hide z0
  have HW0 := hide hw0
  subst hev
  clear z0 hw0
  refine (callsIn_wide (n := 10)).1 ?_
  refine callsIn_of_wp_marks Tryd.func51 rfl trivial ?_ rfl
  simp only [Tryd.ntmps51, List.size_toArray, List.length_cons, List.length_nil, Nat.reduceAdd, Nat.reduceSub, Array.replicate_succ, Array.replicate_zero, List.push_toArray, List.append_toArray, List.nil_append, List.cons_append]
  gi_wp2_with fail
  rw [HW0.out]
  refine ⟨trivial, ?_⟩
  refine (callsIn_wide.2 (reached_any _ _ _ _ _)).mono ?_
  rintro e w1 ⟨rfl, hw1⟩
  have B1 : Below w0.heap.size w0 w1 := by rw [hw1]; exact box2 _ _ _
  have z1 : w1.heap.size = w0.heap.size + 2 := by rw [hw1]; simp
  have F1 : Boxed w1 w0.heap.size 58 (ptr p) := by rw [hw1]; exact (Boxed.new w0 58 (ptr p)).alloc _
  have E1 : Boxed w1 (w0.heap.size + 1) 87 (.slice ea rl.length ecap) := by
    rw [hw1]
    have := Boxed.new (w0.alloc (.cells #[ptr p] 58)) 87 (.slice ea rl.length ecap)
    simpa using this
  have hB : Below w.heap.size w w1 := bt B0 B1
  have d1 := hd.upto hB
  have s1 := hs.upto hB
  have R1 := hR.kept hB
  have P1 := boxed_upto P0 B1 P0.lt
  have T1 := boxed_upto T0 B1 T0.lt
  have hpb : p ≠ b := hd.ne hs
  have zb := hs.lt
  have zp := hd.lt
  have z0 := HZ.out
  have hN2 : N ≤ 16384 := by have := Nat.mul_le_mul hwd.1.2 hwd.2.2; omega
  clear hw1 HW0 z0
  gi_wp2_with fail
  have z0 := HZ.out
  refine range_nest (n := 10) (w0 := w1) (by omega) (gf := 94) (lb := #[ptr (w0.heap.size + 1), ptr w0.heap.size]) rfl (enters_of Tryd.func94 (by kernel_rfl) rfl)
    (reached_seq (10 - 1) p q (w0.heap.size + 1) w0.heap.size b N cl ep wd ht (.slice ea rl.length ecap) rl w1 (by omega) hwd hN d1 E1 F1 R1 hrl hwi) kB2_t (fun W l o o' h1 h2 h3 h4 => ⟨kB_b (w := w1) (by omega) W l o o' h1 h2 h3 h4, kB_b (w := w1) (by omega) W l o o' h1 h2 h3 h4⟩) (Below.refl _ _) (fun _ => rfl)
    (fun pre X => (((Szs X b (stL (carB wd ht tl f cl) wd ht l pre).1 ∧ Boxed X (w.heap.size + 1) 3 (.int .i64 ((stL (carB wd ht tl f cl) wd ht l pre).2 : Nat))) ∧ Boxed X w.heap.size 58 (ptr p)) ∧ Turns (fun k => k = b) w X) ∧ w1.heap.size ≤ X.heap.size)
    (fun pre X => False)
    (OwnFrom.and (OwnFrom.and (OwnFrom.and (OwnFrom.and szs_own (Own.from (boxed_own (w.heap.size + 1) 3 (fun pre : List (Fin N) => .int .i64 ((stL (carB wd ht tl f cl) wd ht l pre).2 : Nat))) _)) (Own.from (boxed_own _ _ _) _)) (ownFrom_turns (by omega))) (ownFrom_size _ _))
    (ownFrom_pure _ _)
    ⟨⟨⟨⟨s1, T1⟩, P1⟩, Turns.of_below hB⟩, Nat.le_refl _⟩
    (fun k a' X => ∃ Bx, w1.heap.size ≤ Bx ∧ Two X Bx ((k.val % wd : Nat) : Int) ((k.val / wd : Nat) : Int) ∧ a' = { tmps := #[ptr p, .slice ea rl.length ecap, ptr w.heap.size, undef, .int .i64 0, ptr (w.heap.size + 1), ptr Bx, undef, undef, ptr p, .slice ea rl.length ecap, .func (.func 94) #[] #[ptr (w0.heap.size + 1), ptr w0.heap.size], cel ((k.val % wd : Nat) : Int) ((k.val / wd : Nat) : Int), undef, undef, undef, undef, undef, undef, undef, undef, undef, undef, undef, undef, undef, undef, undef, undef, undef, undef, undef, undef, undef, undef, undef, undef, undef], defers := [] })
    (fun k a' _ X Y row hs hg hr => by obtain ⟨Bx, e1, e2, e3⟩ := hs; exact ⟨Bx, e1, e2.own hg (fun r e => (hr r e).2), e3⟩)
    ?assign ?body ?done ?stop
  case assign =>
    rintro l' pre k X K ⟨⟨⟨⟨hS, hT⟩, hP⟩, hB'⟩, hz⟩ hK
    dsimp only [encK]
    generalize ((k.val % wd : Nat) : Int) = kx at hK ⊢
    generalize ((k.val / wd : Nat) : Int) = ky at hK ⊢
    clear z0
    gi_wp2
    have z0 := HZ.out
    exact hK _ _ (Keep.of_below (box1 _ _)) ⟨kB_below (box1 X _) (by omega), kB_below (box1 X _) (by omega)⟩ ⟨⟨⟨⟨hS.upto (box1 _ _), hT.alloc _⟩, hP.alloc _⟩, hB'.trans (Turns.of_below (box1 _ _))⟩, by simp; omega⟩ ⟨X.heap.size, hz, Two.newAt rfl, rfl⟩
  case body =>
    rintro l' pre ⟨k, hk⟩ a' X hl' ⟨⟨⟨⟨hS, hT⟩, hP⟩, hB'⟩, hz⟩ ⟨Bx, hBx, T, rfl⟩ hlt
    obtain ⟨hlen, hcnt⟩ := stL_len (carB wd ht tl f cl) wd ht l pre
    have hby := stL_bytes (carB wd ht tl f cl) wd ht hb pre
    have hsn := stL_snoc (carB wd ht tl f cl) wd ht l pre ⟨k, hk⟩
    unfold stp at hsn
    simp only at hsn T
    obtain ⟨L, hL⟩ : ∃ L, (stL (carB wd ht tl f cl) wd ht l pre).1 = L := ⟨_, rfl⟩
    obtain ⟨cn, hcn⟩ : ∃ cn, (stL (carB wd ht tl f cl) wd ht l pre).2 = cn := ⟨_, rfl⟩
    rw [hL] at hS hlen hby
    rw [hL, hcn] at hsn
    rw [hcn] at hT hcnt
    have hkx : k % wd < wd := Nat.mod_lt _ (by omega)
    have hky : k / wd < ht := by rw [Nat.div_lt_iff_lt_mul (by omega), Nat.mul_comm ht wd, ← hN]; exact hk
    have hke : k / wd * wd + k % wd = k := by rw [Nat.mul_comm]; exact Nat.div_add_mod k wd
    have dX : Fd X p q cl wd ht b N ep := hd.kept hB' hpb
    have hTn : ∀ n : Lat X, Turns (fun k => k = b) w n.w := fun n => hB'.trans (Turns.of_below n.h)
    have hq1 : IntKind.i64.wrap (((k / wd : Nat) : Int) * (wd : Int)) = ((k / wd * wd : Nat) : Int) := by
      rw [show ((k / wd : Nat) : Int) * (wd : Int) = ((k / wd * wd : Nat) : Int) by push_cast; rfl]
      exact wrap_nat (by omega)
    have hq2 : IntKind.i64.wrap (((k / wd * wd : Nat) : Int) + ((k % wd : Nat) : Int)) = (k : Nat) := by
      rw [show ((k / wd * wd : Nat) : Int) + ((k % wd : Nat) : Int) = (k : Int) by omega]
      exact wrap_nat (by omega)
    have HIx : Hid (∀ n : Lat X, Calls Tryd.prog 79 #[ptr p, cel ((k % wd : Nat) : Int) ((k / wd : Nat) : Int)] n.w fun e w' => e = .returned (.int .i64 (k : Nat)) ∧ Below n.w.heap.size n.w w') := hide fun n => findex_any _ _ _ k hq1 hq2 (dX.upto n.h)
    obtain ⟨g, hg⟩ : ∃ g, grL (carB wd ht tl f cl) wd ht L ((k % wd : Nat) : Int) ((k / wd : Nat) : Int) = g := ⟨_, rfl⟩
    have hg4 : g ≤ 4 := by rw [← hg]; exact grw_le _ _ _ _
    have HGr : Hid (∀ n : Lat X, Calls Tryd.prog 80 #[ptr p, cel ((k % wd : Nat) : Int) ((k / wd : Nat) : Int)] n.w fun e w' => e = .returned (.int .u8 (g : Nat)) ∧ Below n.w.heap.size n.w w') := hide fun n => by
      have hEn := hE n.w (hTn n)
      have := grown_any (tl := tl) (f := f) ((k % wd : Nat) : Int) ((k / wd : Nat) : Int) (rng _ (Nat.lt_of_lt_of_le hkx hwd.1.2)) (rng _ (Nat.lt_of_lt_of_le hky hwd.2.2)) (dX.upto n.h) (hS.upto n.h) ⟨hwd.1.2, hwd.2.2⟩ (by omega) (by omega) hby hEn.1 hEn.2.1 hEn.2.2
      rwa [hg] at this
    rw [hg] at hsn
    generalize hkxe : ((k % wd : Nat) : Int) = kx at HIx HGr T ⊢
    generalize hkye : ((k / wd : Nat) : Int) = ky at HIx HGr T ⊢
    have hPl : ∀ n : Lat X, n.w.cell? ⟨w.heap.size, 0, none⟩ = some (ptr p) := fun n => (boxed_upto hP n.h hP.lt).cell
    obtain ⟨t0, t1⟩ := T.lat
    have hne := lat_some X
    obtain ⟨old, hold⟩ : ∃ old, L[k]? = some old := ⟨_, List.getElem?_eq_getElem (by omega)⟩
    have hold' : L.getD k 0 = old := by rw [List.getD_eq_getElem?_getD, hold]; rfl
    rw [hold'] at hsn
    have hob : old < 256 := hby old (List.mem_of_getElem? hold)
    have Hsn := hide hsn
    have Hold := hide hold
    clear hsn hold hold' hkxe hkye hq1 hq2 hke z0 hg hL hcn
    gi_wp2_with fail
    refine wpIn_region_lat (by kernel_rfl) (by kernel_rfl) (by kernel_rfl) ?_
    repeat (refine wpQuietIn_step (fun _ _ _ _ => trivial) (fun K hK => ?_); go_simp; first | (refine hK _ ?_; clear hK K) | (apply Exists.intro; refine ⟨fun _ => ?_, hK _ ?_⟩; first | exact callsIn_lat (CallsIn.inRound l' (callsIn_wide.2 (HIx.out _))) | exact callsIn_lat (CallsIn.inRound l' (callsIn_wide.2 (HGr.out _))); clear hK K))
    refine wpQuietIn_nil ?_
    rintro _ ⟨m, rfl⟩
    have q0 := hPl m
    have dm := dX.upto m.h
    have sm := hS.upto m.h
    have q6 := dm.c 6
    simp only [List.getElem?_toArray, List.getElem?_cons_zero, List.getElem?_cons_succ] at q6
    have qk := sm.c Hold.out
    have fk := sm.f k
    have hkI : (0 : Int) ≤ (k : Nat) ∧ ((k : Nat) : Int) < (N : Nat) := by omega
    have hTm := boxed_upto hT m.h hT.lt
    have zm := m.h.size
    clear hPl t0 t1
    by_cases hog : old = g
    · subst hog
      have z0 := HZ.out
      clear z0
      gi_wp2_with fail
      have z0 := HZ.out
      refine ⟨Keep.of_below m.h, ⟨kB_below m.h (by omega), kB_below m.h (by omega)⟩, ⟨⟨⟨⟨?_, ?_⟩, boxed_upto hP m.h hP.lt⟩, hTn m⟩, by omega⟩⟩
      · rw [Hsn.out, set_self Hold.out]; exact sm
      · rw [Hsn.out]; exact hTm
    · have hogi : ¬ ((old : Nat) : Int) = (g : Nat) := by omega
      have hcI : (0 : Int) ≤ (cn : Nat) ∧ ((cn : Nat) : Int) < 16384 := by omega
      have cT : (m.w.setCell ⟨b, k, none⟩ (.int .u8 (g : Nat))).cell? ⟨w.heap.size + 1, 0, none⟩ = some (.int .i64 (cn : Nat)) := cell_other hTm.cell (by omega)
      have fT : (m.w.setCell ⟨b, k, none⟩ (.int .u8 (g : Nat))).frozen? ⟨w.heap.size + 1, 0, none⟩ = false := (World.frozen?_setCell _ _ _ _).trans hTm.frozen
      gi_wp2_with fail
      have z0 := HZ.out
      have hT2 : Boxed (m.w.setCell ⟨b, k, none⟩ (.int .u8 (g : Nat))) (w.heap.size + 1) 3 (.int .i64 (cn : Nat)) := (Below.heap_setCell _ _ _ _ (by simp; omega)).trans hTm
      refine ⟨((Keep.of_below m.h).trans (Keep.set _ _ (by simp; omega))).trans (Keep.set _ _ (by simp; omega)), ⟨kB_t (kB_t (kB_below m.h (by omega)) (kB_set _ _ (by simp; omega))) (kB_set _ _ (by simp; omega)), kB_t (kB_t (kB_below m.h (by omega)) (kB_set _ _ (by simp; omega))) (kB_set _ _ (by simp; omega))⟩, ⟨⟨⟨⟨?_, ?_⟩, ?_⟩, ?_⟩, ?_⟩⟩
      · rw [Hsn.out]; exact (Below.heap_setCell _ _ _ _ (by simp; omega)).trans (sm.set k g)
      · rw [Hsn.out, if_neg hog]; exact hT2.set _
      · exact (Below.heap_setCell _ _ _ _ (by simp)).trans ((Below.heap_setCell _ _ _ _ (by simp; omega)).trans (boxed_upto hP m.h hP.lt))
      · exact ((hTn m).trans (Turns.set m.w (p := ⟨b, k, none⟩) (.inl rfl) _)).trans (Turns.set _ (p := ⟨w.heap.size + 1, 0, none⟩) (.inr (by simp)) _)
      · simp [World.setCell]; omega
  case done =>
    rintro D xs X hD rfl ⟨⟨⟨⟨hS, hT⟩, hP⟩, hB'⟩, hz⟩ hK
    have cT := hT.cell
    have HSx := hide hS
    clear hS z0
    gi_wp2_with fail
    have z0 := HZ.out
    refine ⟨by simp, .inl ⟨_, _, rfl, run_takeDeferred hK, ?_⟩⟩
    refine ⟨.int .i64 ((stL (carB wd ht tl f cl) wd ht l (markL N wd rl)).2 : Nat), by simp [results, Tryd.f51, go_sem], rfl, (World.putObj_heap_other (by omega)).trans HSx.out, hB'.trans (Turns.of_grown (grownBy_putObj' X D (.deferred none)) (fun k e => .inr (by cases e; omega)))⟩
  case stop =>
    rintro D pre X hD hpre hno hK
    exact hno.elim
end Go.Proofs.YtoheibfijpdmfaaDoor
set_option linter.unusedSimpArgs false
namespace Go.Proofs.YtoheibfijpdmfaaDoor
open Go.RowKit Go.Shelf
set_option linter.unusedVariables false
theorem markL_val (N wd : Nat) (rl : List Rc) : (markL N wd rl).map Fin.val = (List.range N).reverse.filter (mkR wd rl) := by
  unfold markL
  have h : (List.finRange N).map Fin.val = List.range N := by
    refine List.ext_getElem (by simp) (fun i h1 h2 => by simp)
  have h2 : (List.finRange N).reverse.map Fin.val = (List.range N).reverse := by rw [List.map_reverse, h]
  rw [← h2, List.filter_map]
  rfl
/-- All of a list reckoned anew where the marked ones cover what is wrong. -/
theorem stL_right {W H : Int} {car : Int → Int → Bool} {wd ht N : Nat} {l : List Nat} {rl : List Rc} (hN : N = wd * ht) (hwd : (1 ≤ wd ∧ wd ≤ 128) ∧ 1 ≤ ht ∧ ht ≤ 128) (hcar : ∀ x y, car x y = true → has 0 0 (wd : Int) (ht : Int) x y = true) (hl : l.length = N)
    (hmk : ∀ k, k < N → mkR wd rl k = false → l.getD k 0 = clrK car wd k) : stL car wd ht l (markL N wd rl) = ((List.range N).map (clrK car wd), cntK car wd l N) := by
  unfold stL
  rw [markL_val]
  subst hN
  have := fold_right (mk := mkR wd rl) ⟨hwd.1.2, hwd.2.2⟩ (by omega) hcar hmk (wd * ht) l 0 (Nat.le_refl _) hl (fun k h1 h2 => by omega) (fun k _ => rfl)
  rwa [Nat.zero_add] at this
theorem mkR_all {wd ht k : Nat} (hwd : 1 ≤ wd) (hk : k < wd * ht) : mkR wd [⟨0, 0, wd, ht⟩] k = true := by
  have h1 : k % wd < wd := Nat.mod_lt _ (by omega)
  have h2 : k / wd < ht := by rw [Nat.div_lt_iff_lt_mul (by omega), Nat.mul_comm]; exact hk
  simp only [mkR, List.any_cons, List.any_nil, Bool.or_false, inR, decide_eq_true_eq]
  generalize k % wd = a at *
  generalize k / wd = c at *
  omega
theorem make_sizes2 (n : Nat) (hn : n ≤ 16384) (w : World) : (Instr.makeSlice 22 (.int .i64 (n : Nat)) (.int .i64 (n : Nat))).run Tryd.prog w = .ok (sl w.heap.size n) (w.alloc (.cells (Array.replicate n (.int .u8 0)) 5)) := by
  have := make_sizes n hn w
  simpa using this
theorem made_sizes2 (n : Nat) (w : World) : Szs (w.alloc (.cells (Array.replicate n (.int .u8 0)) 5)).drew w.heap.size (List.replicate n 0) := by
  have : Szs (w.alloc (.cells (Array.replicate n (.int .u8 0)) 5)) w.heap.size (List.replicate n 0) := by
    have := made_sizes n w
    simpa [Szs] using this
  exact this
set_option maxHeartbeats 1000000 in
theorem epoch_is {w : World} {q n : Nat} (h : Ep w q n) : Calls Tryd.prog 50 #[ptr q] w fun e w' => e = .returned (.int .i64 (n : Nat)) ∧ w' = w := by
  obtain ⟨W, H, tv, bv, bm, a, cap, hd⟩ := h
  have HM := hide (made_is hd)
  have c7 : w.cell? ⟨q, 7, none⟩ = some (.slice a n cap) := hd.c 7
  clear hd
  go_enter Tryd.func50, Tryd.ntmps50
  go_wp2_with (go_at_call 52; refine HM.out.mono ?_; rintro e w' ⟨rfl, rfl⟩)
  go_ret
  exact ⟨rfl, rfl⟩
theorem fclass_is {cl : Int} {r : Bool} (w : World) (h : isC cl = r) : Calls Tryd.prog 49 #[.int .i64 cl] w fun e w' => e = .returned (.bool r) ∧ Below w.heap.size w w' := by subst h; exact fclass_any cl w
set_option maxRecDepth 100000 in
set_option maxHeartbeats 4000000 in
theorem fnew_nil (cl : Int) (w : World) : Calls Tryd.prog 24 #[.pointer none, .int .i64 cl] w fun e w' => e = .returned (.tuple #[.pointer none, .int .i64 1]) ∧ Below w.heap.size w w' := by
  have hm : may 0 0 0 0 = false := by decide
  go_enter Tryd.func24, Tryd.ntmps24
  go_wp2_with fail
  refine (all_nil _).mono ?_
  rintro e w1 ⟨rfl, hb1⟩
  go_wp2_with fail
  refine (may_is _ hm).mono ?_
  rintro e w2 ⟨rfl, hb2⟩
  go_wp2_with fail
  go_ret2
  exact ⟨rfl, bt hb1 (bt (box1 _ _) hb2)⟩
set_option maxRecDepth 100000 in
set_option maxHeartbeats 4000000 in
theorem fnew_bad {w : World} {q : Nat} {W H : Int} {tl : List Nat} {f : Int → Int → Option Int} (cl : Int) (hw : Wl w q W H tl f) (hc : isC cl = false) :
    Calls Tryd.prog 24 #[ptr q, .int .i64 cl] w fun e w' => e = .returned (.tuple #[.pointer none, .int .i64 1]) ∧ Below w.heap.size w w' := by
  obtain ⟨hW, hH⟩ := mt_gs hw.1.1
  have hm : may 0 0 W H = true := by
    simp only [gs, decide_eq_true_eq] at hW hH
    rw [may_iff]; omega
  have HA := hide (all_is hw)
  have HC := hide hc
  clear hw hc
  go_enter Tryd.func24, Tryd.ntmps24
  go_wp2_with fail
  refine HA.out.mono ?_
  rintro e w1 ⟨rfl, hb1⟩
  go_wp2_with fail
  refine (may_is _ hm).mono ?_
  rintro e w2 ⟨rfl, hb2⟩
  go_wp2_with fail
  refine (fclass_is _ HC.out).mono ?_
  rintro e w3 ⟨rfl, hb3⟩
  go_wp2_with fail
  go_ret2
  exact ⟨rfl, bt hb1 (bt (box1 _ _) (bt hb2 hb3))⟩
set_option maxRecDepth 100000 in
set_option maxHeartbeats 8000000 in
theorem fnew_good {w : World} {q n : Nat} {wd ht : Nat} {tl : List Nat} {f : Int → Int → Option Int} (cl : Int) (hw : Wl w q wd ht tl f) (he : Ep w q n) (hg : Grnd w) (ho : Offs w) (hc : isC cl = true) :
    Calls Tryd.prog 24 #[ptr q, .int .i64 cl] w fun e w' => ∃ p b, e = .returned (.tuple #[ptr p, .int .i64 0]) ∧ (Fd w' p q cl wd ht b (wd * ht) (n : Nat) ∧ Szs w' b ((List.range (wd * ht)).map (clrK (carB wd ht tl f cl) wd))) ∧ Below w.heap.size w w' ∧ w.heap.size ≤ b := by
  obtain ⟨hW, hH⟩ := mt_gs hw.1.1
  simp only [gs, decide_eq_true_eq] at hW hH
  have hwd : (1 ≤ wd ∧ wd ≤ 128) ∧ 1 ≤ ht ∧ ht ≤ 128 := by omega
  have hm : may 0 0 (wd : Int) (ht : Int) = true := by rw [may_iff]; omega
  obtain ⟨N, hN⟩ : ∃ N, N = wd * ht := ⟨_, rfl⟩
  have hN2 : N ≤ 16384 := by have := Nat.mul_le_mul hwd.1.2 hwd.2.2; omega
  have hmul : IntKind.i64.wrap ((wd : Int) * (ht : Int)) = (N : Nat) := by
    rw [show (wd : Int) * (ht : Int) = ((wd * ht : Nat) : Int) by push_cast; rfl, ← hN]
    exact wrap_nat hN2
  have HA := hide (all_is hw)
  have HC := hide hc
  have HE : Hid (∀ wx, Below w.heap.size w wx → Calls Tryd.prog 50 #[ptr q] wx fun e w' => e = .returned (.int .i64 (n : Nat)) ∧ w' = wx) := hide fun wx hx => epoch_is (he.kept hx)
  have HK : Hid (∀ wx, Below w.heap.size w wx → Wl wx q wd ht tl f ∧ Grnd wx ∧ Offs wx) := hide fun wx hx => ⟨hw.kept hx, hg.kept hx, ho.kept hx⟩
  rw [← hN]
  have HN := hide hN
  clear hw hc he hg ho hW hH hN
  go_enter Tryd.func24, Tryd.ntmps24
  go_wp2_with fail
  refine HA.out.mono ?_
  rintro e w1 ⟨rfl, hb1⟩
  go_wp2_with fail
  refine (may_is _ hm).mono ?_
  rintro e w2 ⟨rfl, hb2⟩
  have F2 : Four w2 w1.heap.size 0 0 wd ht := cells4 hb2
  have B2 := bt hb1 (bt (box1 _ _) hb2)
  clear hb2
  go_wp2_with fail
  refine (fclass_is _ HC.out).mono ?_
  rintro e X ⟨rfl, hb3⟩
  have FX := F2.kept hb3
  have BX := bt B2 hb3
  have zX := BX.size
  clear F2 B2 hb3
  go_wp2_with fail
  have HS : Hid (∀ wx, Below X.heap.size X wx → (wx.cell? ⟨w1.heap.size, 0, none⟩ = some (.int .i64 0) ∧ wx.cell? ⟨w1.heap.size, 1, none⟩ = some (.int .i64 0) ∧ wx.cell? ⟨w1.heap.size, 2, none⟩ = some (.int .i64 wd) ∧ wx.cell? ⟨w1.heap.size, 3, none⟩ = some (.int .i64 ht))) := hide fun wx hx => (FX.kept hx).1
  have hmk := make_sizes2 N hN2
  refine Code.wp_mono (Q := Only (fun a' w' => ∃ (p b : Nat) (u18 u19 u20 u21 u22 u23 u24 u25 u26 u27 u28 u29 : Value), ((Fd w' p q cl wd ht b N (n : Nat) ∧ Szs w' b (List.replicate N 0)) ∧ Below X.heap.size X w' ∧ X.heap.size ≤ b) ∧ a' = { tmps := #[ptr q, .int .i64 cl, undef, undef, .pointer none, .int .i64 0, ptr w1.heap.size, ptr p, ptr q, rct 0 0 wd ht, rct 0 0 wd ht, .bool true, .bool false, .bool false, .int .i64 cl, .bool true, .bool false, .bool false, u18, u19, u20, u21, u22, u23, u24, u25, u26, u27, u28, u29, ptr p, undef, undef, undef, undef, undef], defers := [] })) ?rest ?_
  case rest =>
    rintro (_ | _ | _ | _ | _) a' w4 hO
    all_goals first | exact hO.elim | skip
    obtain ⟨p, b, u18, u19, u20, u21, u22, u23, u24, u25, u26, u27, u28, u29, ⟨⟨d4, s4⟩, B4, hb4⟩, rfl⟩ := hO
    obtain ⟨⟨f0, f1, f2, f3⟩, -, -⟩ := FX.kept B4
    obtain ⟨w5, hw5⟩ : ∃ w5, w4.alloc (.cells #[.int .i64 0, .int .i64 0, .int .i64 wd, .int .i64 ht] 53) = w5 := ⟨_, rfl⟩
    have B5 : Below w4.heap.size w4 w5 := by rw [← hw5]; exact box1 _ _
    have F5 : Four w5 w4.heap.size 0 0 wd ht := by rw [← hw5]; exact cells4 (Below.refl _ _)
    have R5 : RcB w5 (sl w4.heap.size 1) [⟨0, 0, wd, ht⟩] := ⟨some ⟨w4.heap.size, 0, none⟩, 1, rfl, by simp, fun i r hr => by
      match i with
      | 0 =>
        simp at hr
        subst hr
        exact ⟨w4.heap.size, rfl, F5.2.2, F5.1.1, F5.1.2.1, F5.1.2.2.1, F5.1.2.2.2⟩
      | j + 1 => simp at hr⟩
    have d5 := d4.upto B5
    have s5 := s4.upto B5
    have BW5 : Below w.heap.size w w5 := bt BX (bt B4 B5)
    have hbl : w.heap.size ≤ b := by omega
    have hE5 : ∀ Y, Turns (fun k => k = b) w5 Y → Wl Y q wd ht tl f ∧ Grnd Y ∧ Offs Y := fun Y hY => HK.out Y (BW5.trans (hY.below (B := w.heap.size) (fun k hk => by omega) BW5.size))
    have hwi : ∀ r ∈ ([⟨0, 0, wd, ht⟩] : List Rc), wi r.x r.y r.a r.b 0 0 wd ht = true := fun r hr => by
      simp at hr
      subst hr
      have h1 : has 0 0 (wd : Int) (ht : Int) 0 0 = true := by rw [has_iff]; exact ⟨hm, by omega⟩
      have h2 : has 0 0 (wd : Int) (ht : Int) (0 + wd - 1) (0 + ht - 1) = true := by rw [has_iff]; exact ⟨hm, by omega⟩
      simp only [wi, Bool.and_eq_true]
      exact ⟨hm, h1, h2⟩
    have HR := hide (reckon_any p q b N cl (n : Nat) wd ht (List.replicate N 0) tl f (sl w4.heap.size 1) [⟨0, 0, wd, ht⟩] w5 hwd HN.out d5 s5 (by simp) (fun u hu => by rw [(List.mem_replicate.1 hu).2]; omega) hE5 R5 (by simp) hwi)
    have hst := stL_right (W := wd) (H := ht) (l := List.replicate N 0) (rl := [⟨0, 0, wd, ht⟩]) HN.out hwd (fun x y h => car_has (tl := tl) (f := f) (c := cl) h) (by simp) (fun k hk h => by rw [mkR_all hwd.1.1 (by rw [← HN.out]; exact hk)] at h; cases h)
    rw [hst] at HR
    have HB := hide BW5
    have HD := hide d5
    have HW5 := hide hw5
    have hpb := d5.ne s5
    clear hst R5 hE5 hwi BW5 d5 s5 d4 s4 HK HE HA HC HS hmk hw5
    go_wp2_with fail
    rw [HW5.out]
    refine HR.out.mono ?_
    rintro e w6 ⟨rfl, s6, t6⟩
    have HD6 := hide (HD.out.kept t6 hpb)
    have HB6 := hide (HB.out.trans (t6.below (B := w.heap.size) (fun k hk => by omega) HB.out.size))
    have HS6 := hide s6
    clear HR s6 t6 f0 f1 f2 f3
    go_wp2_with fail
    go_ret2
    exact ⟨p, b, rfl, ⟨HD6.out, HS6.out⟩, HB6.out, hbl⟩
  refine wp_region_held_drew (S := fun wx => (wx.cell? ⟨w1.heap.size, 0, none⟩ = some (.int .i64 0) ∧ wx.cell? ⟨w1.heap.size, 1, none⟩ = some (.int .i64 0) ∧ wx.cell? ⟨w1.heap.size, 2, none⟩ = some (.int .i64 wd) ∧ wx.cell? ⟨w1.heap.size, 3, none⟩ = some (.int .i64 ht))) (by kernel_rfl) (HS.out _ (Below.refl _ _).drew) (fun hHeld => ?_)
  refine wpAnyH_take (i := 0) (v := ?_) rfl (by kernel_rfl) (by kernel_rfl) (by kernel_rfl) (fun _ _ _ h => h.elim) (Or.inl ⟨by rfl, ?_⟩) (by assumption) ?_
  rotate_left
  · intro wx hSw
    try dsimp only at hSw
    go_simp
    try with_reducible rfl
  try simp only [Act.put, List.getElem_toArray, List.getElem_cons_zero, List.getElem_cons_succ, List.setIfInBounds_toArray, List.set_cons_zero, List.set_cons_succ]
  refine wpAnyH_take (i := 1) (v := ?_) rfl (by kernel_rfl) (by kernel_rfl) (by kernel_rfl) (fun _ _ _ h => h.elim) (Or.inl ⟨by rfl, ?_⟩) (by assumption) ?_
  rotate_left
  · intro wx hSw
    try dsimp only at hSw
    go_simp
    try with_reducible rfl
  try simp only [Act.put, List.getElem_toArray, List.getElem_cons_zero, List.getElem_cons_succ, List.setIfInBounds_toArray, List.set_cons_zero, List.set_cons_succ]
  refine wpAnyH_take (i := 2) (v := ?_) rfl (by kernel_rfl) (by kernel_rfl) (by kernel_rfl) (fun _ _ _ h => h.elim) (Or.inl ⟨by rfl, ?_⟩) (by assumption) ?_
  rotate_left
  · intro wx hSw
    try dsimp only at hSw
    go_simp
    try with_reducible rfl
  try simp only [Act.put, List.getElem_toArray, List.getElem_cons_zero, List.getElem_cons_succ, List.setIfInBounds_toArray, List.set_cons_zero, List.set_cons_succ]
  refine wpAnyH_take (i := 3) (v := ?_) rfl (by kernel_rfl) (by kernel_rfl) (by kernel_rfl) (fun _ _ _ h => h.elim) (Or.inl ⟨by rfl, ?_⟩) (by assumption) ?_
  rotate_left
  · intro wx hSw
    try dsimp only at hSw
    go_simp
    try with_reducible rfl
  try simp only [Act.put, List.getElem_toArray, List.getElem_cons_zero, List.getElem_cons_succ, List.setIfInBounds_toArray, List.set_cons_zero, List.set_cons_succ]
  refine wpAnyH_take (i := 4) (v := ?_) rfl (by kernel_rfl) (by kernel_rfl) (by kernel_rfl) (fun _ _ _ h => h.elim) (Or.inl ⟨by rfl, ?_⟩) (by assumption) ?_
  rotate_left
  · intro wx hSw
    try dsimp only at hSw
    go_simp
    try with_reducible rfl
  try simp only [Act.put, List.getElem_toArray, List.getElem_cons_zero, List.getElem_cons_succ, List.setIfInBounds_toArray, List.set_cons_zero, List.set_cons_succ]
  refine wpAnyH_take (i := 5) (v := ?_) rfl (by kernel_rfl) (by kernel_rfl) (by kernel_rfl) (fun _ _ _ h => h.elim) (Or.inl ⟨by rfl, ?_⟩) (by assumption) ?_
  rotate_left
  · intro wx hSw
    try dsimp only at hSw
    go_simp
    try with_reducible rfl
  try simp only [Act.put, List.getElem_toArray, List.getElem_cons_zero, List.getElem_cons_succ, List.setIfInBounds_toArray, List.set_cons_zero, List.set_cons_succ]
  refine wpAnyH_take (i := 6) (v := ?_) rfl (by kernel_rfl) (by kernel_rfl) (by kernel_rfl) (fun _ _ _ h => h.elim) (Or.inl ⟨by rfl, ?_⟩) (by assumption) ?_
  rotate_left
  · intro wx hSw
    try dsimp only at hSw
    go_simp
    try with_reducible rfl
  try simp only [Act.put, List.getElem_toArray, List.getElem_cons_zero, List.getElem_cons_succ, List.setIfInBounds_toArray, List.set_cons_zero, List.set_cons_succ]
  refine wpAnyH_take (i := 7) (v := ?_) rfl (by kernel_rfl) (by kernel_rfl) (by kernel_rfl) (fun _ _ _ h => h.elim) (Or.inl ⟨by rfl, ?_⟩) (by assumption) ?_
  rotate_left
  · intro wx hSw
    try dsimp only at hSw
    go_simp
    try with_reducible rfl
  try simp only [Act.put, List.getElem_toArray, List.getElem_cons_zero, List.getElem_cons_succ, List.setIfInBounds_toArray, List.set_cons_zero, List.set_cons_succ]
  refine wpAnyH_take (i := 9) (v := ?_) rfl (by kernel_rfl) (by kernel_rfl) (by kernel_rfl) (fun _ _ _ h => h.elim) (Or.inl ⟨by rfl, ?_⟩) (by assumption) ?_
  rotate_left
  · intro wx hSw
    try dsimp only at hSw
    go_simp
    try with_reducible rfl
  try simp only [Act.put, List.getElem_toArray, List.getElem_cons_zero, List.getElem_cons_succ, List.setIfInBounds_toArray, List.set_cons_zero, List.set_cons_succ]
  refine wpAnyH_ready (rs := [8, 10]) (by kernel_rfl) (by simp) ?_
  refine AllReadyH.cons rfl (fun K hK => ?_) ?_
  · go_simp
    have s1 : Szs (X.alloc (.cells (Array.replicate N (.int .u8 0)) 5)).drew X.heap.size (List.replicate N 0) := made_sizes2 N X
    have b1 : Below X.heap.size X (X.alloc (.cells (Array.replicate N (.int .u8 0)) 5)).drew := (box1 X _).drew
    generalize hZ : (X.alloc (.cells (Array.replicate N (.int .u8 0)) 5)).drew = Z at s1 b1 ⊢
    have HZ := hide hZ
    clear hZ
    refine hK.out _ _ ?_ (fun hHeld => ?_)
    · first | exact HS.out _ (Below.refl _ _).drew | exact HS.out _ b1 | exact HS.out _ b2
    clear hK K
    try simp only [Act.put, List.getElem_toArray, List.getElem_cons_zero, List.getElem_cons_succ, List.setIfInBounds_toArray, List.set_cons_zero, List.set_cons_succ]
    refine wpAnyH_ready (rs := [10]) (by kernel_rfl) (by simp) ?_
    refine AllReadyH.cons rfl (fun K hK => ?_) ?_
    · go_simp
      refine (HE.out _ (bt BX b1)).mono ?_
      rintro e z1 ⟨rfl, hz1⟩
      try go_wp2_with fail
      have hz2 := hz1.symm
      subst hz2
      refine hK.out _ _ ?_ (fun hHeld => ?_)
      · first | exact HS.out _ (Below.refl _ _).drew | exact HS.out _ b1 | exact HS.out _ b2
      clear hK K
      try simp only [Act.put, List.getElem_toArray, List.getElem_cons_zero, List.getElem_cons_succ, List.setIfInBounds_toArray, List.set_cons_zero, List.set_cons_succ]
      refine wpAnyH_take (i := 11) (v := ?_) rfl (by kernel_rfl) (by kernel_rfl) (by kernel_rfl) (fun _ _ _ h => h.elim) (Or.inl ⟨by rfl, ?_⟩) (by assumption) ?_
      rotate_left
      · intro wx hSw
        try dsimp only at hSw
        go_simp
        try with_reducible rfl
      try simp only [Act.put, List.getElem_toArray, List.getElem_cons_zero, List.getElem_cons_succ, List.setIfInBounds_toArray, List.set_cons_zero, List.set_cons_succ]
      refine wpAnyH_ready (rs := [12]) (by kernel_rfl) (by simp) ?_
      refine AllReadyH.cons rfl (fun K hK => ?_) ?_
      · go_simp
        have d1 : Fd (Z.alloc (.cells #[ptr q, .int .i64 cl, .int .i64 0, .int .i64 0, .int .i64 wd, .int .i64 ht, sl X.heap.size N, .int .i64 (n : Nat)] 107)) Z.heap.size q cl wd ht X.heap.size N (n : Nat) := heap_alloc_new Z _
        have b2 : Below X.heap.size X (Z.alloc (.cells #[ptr q, .int .i64 cl, .int .i64 0, .int .i64 0, .int .i64 wd, .int .i64 ht, sl X.heap.size N, .int .i64 (n : Nat)] 107)) := bt b1 (box1 _ _)
        have s2 : Szs (Z.alloc (.cells #[ptr q, .int .i64 cl, .int .i64 0, .int .i64 0, .int .i64 wd, .int .i64 ht, sl X.heap.size N, .int .i64 (n : Nat)] 107)) X.heap.size (List.replicate N 0) := s1.upto (box1 _ _)
        refine hK.out _ _ ?_ (fun hHeld => ?_)
        · first | exact HS.out _ (Below.refl _ _).drew | exact HS.out _ b1 | exact HS.out _ b2
        clear hK K
        try simp only [Act.put, List.getElem_toArray, List.getElem_cons_zero, List.getElem_cons_succ, List.setIfInBounds_toArray, List.set_cons_zero, List.set_cons_succ]
        refine wpAnyH_take (i := 13) (v := ?_) rfl (by kernel_rfl) (by kernel_rfl) (by kernel_rfl) (fun _ _ _ h => h.elim) (Or.inl ⟨by rfl, ?_⟩) (by assumption) ?_
        rotate_left
        · intro wx hSw
          try dsimp only at hSw
          go_simp
          try with_reducible rfl
        try simp only [Act.put, List.getElem_toArray, List.getElem_cons_zero, List.getElem_cons_succ, List.setIfInBounds_toArray, List.set_cons_zero, List.set_cons_succ]
        refine wpAnyH_done (by kernel_rfl) ?_ _
        exact ⟨_, _, _, _, _, _, _, _, _, _, _, _, _, _, ⟨⟨d1, s2⟩, b2, Nat.le_refl _⟩, rfl⟩
      exact AllReadyH.nil
    exact AllReadyH.nil
  refine AllReadyH.cons rfl (fun K hK => ?_) ?_
  · go_simp
    refine (HE.out _ (bt BX (Below.refl _ _).drew)).mono ?_
    rintro e z1 ⟨rfl, hz1⟩
    try go_wp2_with fail
    have hz2 := hz1.symm
    subst hz2
    refine hK.out _ _ ?_ (fun hHeld => ?_)
    · first | exact HS.out _ (Below.refl _ _).drew | exact HS.out _ b1 | exact HS.out _ b2
    clear hK K
    try simp only [Act.put, List.getElem_toArray, List.getElem_cons_zero, List.getElem_cons_succ, List.setIfInBounds_toArray, List.set_cons_zero, List.set_cons_succ]
    refine wpAnyH_ready (rs := [8]) (by kernel_rfl) (by simp) ?_
    refine AllReadyH.cons rfl (fun K hK => ?_) ?_
    · go_simp
      have s1 : Szs (X.alloc (.cells (Array.replicate N (.int .u8 0)) 5)).drew X.heap.size (List.replicate N 0) := made_sizes2 N X
      have b1 : Below X.heap.size X (X.alloc (.cells (Array.replicate N (.int .u8 0)) 5)).drew := (box1 X _).drew
      generalize hZ : (X.alloc (.cells (Array.replicate N (.int .u8 0)) 5)).drew = Z at s1 b1 ⊢
      have HZ := hide hZ
      clear hZ
      refine hK.out _ _ ?_ (fun hHeld => ?_)
      · first | exact HS.out _ (Below.refl _ _).drew | exact HS.out _ b1 | exact HS.out _ b2
      clear hK K
      try simp only [Act.put, List.getElem_toArray, List.getElem_cons_zero, List.getElem_cons_succ, List.setIfInBounds_toArray, List.set_cons_zero, List.set_cons_succ]
      refine wpAnyH_take (i := 11) (v := ?_) rfl (by kernel_rfl) (by kernel_rfl) (by kernel_rfl) (fun _ _ _ h => h.elim) (Or.inl ⟨by rfl, ?_⟩) (by assumption) ?_
      rotate_left
      · intro wx hSw
        try dsimp only at hSw
        go_simp
        try with_reducible rfl
      try simp only [Act.put, List.getElem_toArray, List.getElem_cons_zero, List.getElem_cons_succ, List.setIfInBounds_toArray, List.set_cons_zero, List.set_cons_succ]
      refine wpAnyH_ready (rs := [12]) (by kernel_rfl) (by simp) ?_
      refine AllReadyH.cons rfl (fun K hK => ?_) ?_
      · go_simp
        have d1 : Fd (Z.alloc (.cells #[ptr q, .int .i64 cl, .int .i64 0, .int .i64 0, .int .i64 wd, .int .i64 ht, sl X.heap.size N, .int .i64 (n : Nat)] 107)) Z.heap.size q cl wd ht X.heap.size N (n : Nat) := heap_alloc_new Z _
        have b2 : Below X.heap.size X (Z.alloc (.cells #[ptr q, .int .i64 cl, .int .i64 0, .int .i64 0, .int .i64 wd, .int .i64 ht, sl X.heap.size N, .int .i64 (n : Nat)] 107)) := bt b1 (box1 _ _)
        have s2 : Szs (Z.alloc (.cells #[ptr q, .int .i64 cl, .int .i64 0, .int .i64 0, .int .i64 wd, .int .i64 ht, sl X.heap.size N, .int .i64 (n : Nat)] 107)) X.heap.size (List.replicate N 0) := s1.upto (box1 _ _)
        refine hK.out _ _ ?_ (fun hHeld => ?_)
        · first | exact HS.out _ (Below.refl _ _).drew | exact HS.out _ b1 | exact HS.out _ b2
        clear hK K
        try simp only [Act.put, List.getElem_toArray, List.getElem_cons_zero, List.getElem_cons_succ, List.setIfInBounds_toArray, List.set_cons_zero, List.set_cons_succ]
        refine wpAnyH_take (i := 13) (v := ?_) rfl (by kernel_rfl) (by kernel_rfl) (by kernel_rfl) (fun _ _ _ h => h.elim) (Or.inl ⟨by rfl, ?_⟩) (by assumption) ?_
        rotate_left
        · intro wx hSw
          try dsimp only at hSw
          go_simp
          try with_reducible rfl
        try simp only [Act.put, List.getElem_toArray, List.getElem_cons_zero, List.getElem_cons_succ, List.setIfInBounds_toArray, List.set_cons_zero, List.set_cons_succ]
        refine wpAnyH_done (by kernel_rfl) ?_ _
        exact ⟨_, _, _, _, _, _, _, _, _, _, _, _, _, _, ⟨⟨d1, s2⟩, b2, Nat.le_refl _⟩, rfl⟩
      exact AllReadyH.nil
    exact AllReadyH.nil
  exact AllReadyH.nil
end Go.Proofs.YtoheibfijpdmfaaDoor
