/-
  New: a class's field, all clearances of the world as it is.
-/
import Derived.Test.YtoheibfijpdmfaaDoorReckon
set_option linter.unusedSimpArgs false
namespace Go.Proofs.YtoheibfijpdmfaaDoor
open Go.RowKit Go.Shelf
set_option linter.unusedVariables false
theorem markL_val (N wd : Nat) (rl : List Rc) : (markL N wd rl).map Fin.val = (List.range N).reverse.filter (mkR wd rl) := by
  unfold markL
  have h : (List.finRange N).map Fin.val = List.range N := by
    refine List.ext_getElem (by simp) (fun i h1 h2 => by simp)
  have h2 : (List.finRange N).reverse.map Fin.val = (List.range N).reverse := by rw [List.map_reverse, h]
  rw [← h2, List.filter_map]
  rfl
/-- All of a list reckoned anew where the marked ones cover what is wrong. -/
theorem stL_right {W H : Int} {car : Int → Int → Bool} {wd ht N : Nat} {l : List Nat} {rl : List Rc} (hN : N = wd * ht) (hwd : (1 ≤ wd ∧ wd ≤ 128) ∧ 1 ≤ ht ∧ ht ≤ 128) (hcar : ∀ x y, car x y = true → has 0 0 (wd : Int) (ht : Int) x y = true) (hl : l.length = N)
    (hmk : ∀ k, k < N → mkR wd rl k = false → l.getD k 0 = clrK car wd k) : stL car wd ht l (markL N wd rl) = ((List.range N).map (clrK car wd), cntK car wd l N) := by
  unfold stL
  rw [markL_val]
  subst hN
  have := fold_right (mk := mkR wd rl) ⟨hwd.1.2, hwd.2.2⟩ (by omega) hcar hmk (wd * ht) l 0 (Nat.le_refl _) hl (fun k h1 h2 => by omega) (fun k _ => rfl)
  rwa [Nat.zero_add] at this
theorem mkR_all {wd ht k : Nat} (hwd : 1 ≤ wd) (hk : k < wd * ht) : mkR wd [⟨0, 0, wd, ht⟩] k = true := by
  have h1 : k % wd < wd := Nat.mod_lt _ (by omega)
  have h2 : k / wd < ht := by rw [Nat.div_lt_iff_lt_mul (by omega), Nat.mul_comm]; exact hk
  simp only [mkR, List.any_cons, List.any_nil, Bool.or_false, inR, decide_eq_true_eq]
  generalize k % wd = a at *
  generalize k / wd = c at *
  omega
theorem make_sizes2 (n : Nat) (hn : n ≤ 16384) (w : World) : (Instr.makeSlice 22 (.int .i64 (n : Nat)) (.int .i64 (n : Nat))).run Tryd.prog w = .ok (sl w.heap.size n) (w.alloc (.cells (Array.replicate n (.int .u8 0)) 5)) := by
  have := make_sizes n hn w
  simpa using this
theorem made_sizes2 (n : Nat) (w : World) : Szs (w.alloc (.cells (Array.replicate n (.int .u8 0)) 5)).drew w.heap.size (List.replicate n 0) := by
  have : Szs (w.alloc (.cells (Array.replicate n (.int .u8 0)) 5)) w.heap.size (List.replicate n 0) := by
    have := made_sizes n w
    simpa [Szs] using this
  exact this
set_option maxHeartbeats 1000000 in
theorem epoch_is {w : World} {q n : Nat} (h : Ep w q n) : Calls Tryd.prog 50 #[ptr q] w fun e w' => e = .returned (.int .i64 (n : Nat)) ∧ w' = w := by
  obtain ⟨W, H, tv, bv, bm, a, cap, hd⟩ := h
  have HM := hide (made_is hd)
  have c7 : w.cell? ⟨q, 7, none⟩ = some (.slice a n cap) := hd.c 7
  clear hd
  go_enter Tryd.func50, Tryd.ntmps50
  go_wp2_with (go_at_call 52; refine HM.out.mono ?_; rintro e w' ⟨rfl, rfl⟩)
  go_ret
  exact ⟨rfl, rfl⟩
theorem fclass_is {cl : Int} {r : Bool} (w : World) (h : isC cl = r) : Calls Tryd.prog 49 #[.int .i64 cl] w fun e w' => e = .returned (.bool r) ∧ Below w.heap.size w w' := by subst h; exact fclass_any cl w
set_option maxRecDepth 100000 in
set_option maxHeartbeats 4000000 in
theorem fnew_nil (cl : Int) (w : World) : Calls Tryd.prog 24 #[.pointer none, .int .i64 cl] w fun e w' => e = .returned (.tuple #[.pointer none, .int .i64 1]) ∧ Below w.heap.size w w' := by
  have hm : may 0 0 0 0 = false := by decide
  go_enter Tryd.func24, Tryd.ntmps24
  go_wp2_with fail
  refine (all_nil _).mono ?_
  rintro e w1 ⟨rfl, hb1⟩
  go_wp2_with fail
  refine (may_is _ hm).mono ?_
  rintro e w2 ⟨rfl, hb2⟩
  go_wp2_with fail
  go_ret2
  exact ⟨rfl, bt hb1 (bt (box1 _ _) hb2)⟩
set_option maxRecDepth 100000 in
set_option maxHeartbeats 4000000 in
theorem fnew_bad {w : World} {q : Nat} {W H : Int} {tl : List Nat} {f : Int → Int → Option Int} (cl : Int) (hw : Wl w q W H tl f) (hc : isC cl = false) :
    Calls Tryd.prog 24 #[ptr q, .int .i64 cl] w fun e w' => e = .returned (.tuple #[.pointer none, .int .i64 1]) ∧ Below w.heap.size w w' := by
  obtain ⟨hW, hH⟩ := mt_gs hw.1.1
  have hm : may 0 0 W H = true := by
    simp only [gs, decide_eq_true_eq] at hW hH
    rw [may_iff]; omega
  have HA := hide (all_is hw)
  have HC := hide hc
  clear hw hc
  go_enter Tryd.func24, Tryd.ntmps24
  go_wp2_with fail
  refine HA.out.mono ?_
  rintro e w1 ⟨rfl, hb1⟩
  go_wp2_with fail
  refine (may_is _ hm).mono ?_
  rintro e w2 ⟨rfl, hb2⟩
  go_wp2_with fail
  refine (fclass_is _ HC.out).mono ?_
  rintro e w3 ⟨rfl, hb3⟩
  go_wp2_with fail
  go_ret2
  exact ⟨rfl, bt hb1 (bt (box1 _ _) (bt hb2 hb3))⟩
set_option maxRecDepth 100000 in
set_option maxHeartbeats 8000000 in
theorem fnew_good {w : World} {q n : Nat} {wd ht : Nat} {tl : List Nat} {f : Int → Int → Option Int} (cl : Int) (hw : Wl w q wd ht tl f) (he : Ep w q n) (hg : Grnd w) (ho : Offs w) (hc : isC cl = true) :
    Calls Tryd.prog 24 #[ptr q, .int .i64 cl] w fun e w' => ∃ p b, e = .returned (.tuple #[ptr p, .int .i64 0]) ∧ (Fd w' p q cl wd ht b (wd * ht) (n : Nat) ∧ Szs w' b ((List.range (wd * ht)).map (clrK (carB wd ht tl f cl) wd))) ∧ Below w.heap.size w w' ∧ w.heap.size ≤ b := by
  obtain ⟨hW, hH⟩ := mt_gs hw.1.1
  simp only [gs, decide_eq_true_eq] at hW hH
  have hwd : (1 ≤ wd ∧ wd ≤ 128) ∧ 1 ≤ ht ∧ ht ≤ 128 := by omega
  have hm : may 0 0 (wd : Int) (ht : Int) = true := by rw [may_iff]; omega
  obtain ⟨N, hN⟩ : ∃ N, N = wd * ht := ⟨_, rfl⟩
  have hN2 : N ≤ 16384 := by have := Nat.mul_le_mul hwd.1.2 hwd.2.2; omega
  have hmul : IntKind.i64.wrap ((wd : Int) * (ht : Int)) = (N : Nat) := by
    rw [show (wd : Int) * (ht : Int) = ((wd * ht : Nat) : Int) by push_cast; rfl, ← hN]
    exact wrap_nat hN2
  have HA := hide (all_is hw)
  have HC := hide hc
  have HE : Hid (∀ wx, Below w.heap.size w wx → Calls Tryd.prog 50 #[ptr q] wx fun e w' => e = .returned (.int .i64 (n : Nat)) ∧ w' = wx) := hide fun wx hx => epoch_is (he.kept hx)
  have HK : Hid (∀ wx, Below w.heap.size w wx → Wl wx q wd ht tl f ∧ Grnd wx ∧ Offs wx) := hide fun wx hx => ⟨hw.kept hx, hg.kept hx, ho.kept hx⟩
  rw [← hN]
  have HN := hide hN
  clear hw hc he hg ho hW hH hN
  go_enter Tryd.func24, Tryd.ntmps24
  go_wp2_with fail
  refine HA.out.mono ?_
  rintro e w1 ⟨rfl, hb1⟩
  go_wp2_with fail
  refine (may_is _ hm).mono ?_
  rintro e w2 ⟨rfl, hb2⟩
  have F2 : Four w2 w1.heap.size 0 0 wd ht := cells4 hb2
  have B2 := bt hb1 (bt (box1 _ _) hb2)
  clear hb2
  go_wp2_with fail
  refine (fclass_is _ HC.out).mono ?_
  rintro e X ⟨rfl, hb3⟩
  have FX := F2.kept hb3
  have BX := bt B2 hb3
  have zX := BX.size
  clear F2 B2 hb3
  go_wp2_with fail
  have HS : Hid (∀ wx, Below X.heap.size X wx → (wx.cell? ⟨w1.heap.size, 0, none⟩ = some (.int .i64 0) ∧ wx.cell? ⟨w1.heap.size, 1, none⟩ = some (.int .i64 0) ∧ wx.cell? ⟨w1.heap.size, 2, none⟩ = some (.int .i64 wd) ∧ wx.cell? ⟨w1.heap.size, 3, none⟩ = some (.int .i64 ht))) := hide fun wx hx => (FX.kept hx).1
  have hmk := make_sizes2 N hN2
  refine Code.wp_mono (Q := Only (fun a' w' => ∃ (p b : Nat) (u18 u19 u20 u21 u22 u23 u24 u25 u26 u27 u28 u29 : Value), ((Fd w' p q cl wd ht b N (n : Nat) ∧ Szs w' b (List.replicate N 0)) ∧ Below X.heap.size X w' ∧ X.heap.size ≤ b) ∧ a' = { tmps := #[ptr q, .int .i64 cl, undef, undef, .pointer none, .int .i64 0, ptr w1.heap.size, ptr p, ptr q, rct 0 0 wd ht, rct 0 0 wd ht, .bool true, .bool false, .bool false, .int .i64 cl, .bool true, .bool false, .bool false, u18, u19, u20, u21, u22, u23, u24, u25, u26, u27, u28, u29, ptr p, undef, undef, undef, undef, undef], defers := [] })) ?rest ?_
  case rest =>
    rintro (_ | _ | _ | _ | _) a' w4 hO
    all_goals first | exact hO.elim | skip
    obtain ⟨p, b, u18, u19, u20, u21, u22, u23, u24, u25, u26, u27, u28, u29, ⟨⟨d4, s4⟩, B4, hb4⟩, rfl⟩ := hO
    obtain ⟨⟨f0, f1, f2, f3⟩, -, -⟩ := FX.kept B4
    obtain ⟨w5, hw5⟩ : ∃ w5, w4.alloc (.cells #[.int .i64 0, .int .i64 0, .int .i64 wd, .int .i64 ht] 53) = w5 := ⟨_, rfl⟩
    have B5 : Below w4.heap.size w4 w5 := by rw [← hw5]; exact box1 _ _
    have F5 : Four w5 w4.heap.size 0 0 wd ht := by rw [← hw5]; exact cells4 (Below.refl _ _)
    have R5 : RcB w5 (sl w4.heap.size 1) [⟨0, 0, wd, ht⟩] := ⟨some ⟨w4.heap.size, 0, none⟩, 1, rfl, by simp, fun i r hr => by
      match i with
      | 0 =>
        simp at hr
        subst hr
        exact ⟨w4.heap.size, rfl, F5.2.2, F5.1.1, F5.1.2.1, F5.1.2.2.1, F5.1.2.2.2⟩
      | j + 1 => simp at hr⟩
    have d5 := d4.upto B5
    have s5 := s4.upto B5
    have BW5 : Below w.heap.size w w5 := bt BX (bt B4 B5)
    have hbl : w.heap.size ≤ b := by omega
    have hE5 : ∀ Y, Turns (fun k => k = b) w5 Y → Wl Y q wd ht tl f ∧ Grnd Y ∧ Offs Y := fun Y hY => HK.out Y (BW5.trans (hY.below (B := w.heap.size) (fun k hk => by omega) BW5.size))
    have hwi : ∀ r ∈ ([⟨0, 0, wd, ht⟩] : List Rc), wi r.x r.y r.a r.b 0 0 wd ht = true := fun r hr => by
      simp at hr
      subst hr
      have h1 : has 0 0 (wd : Int) (ht : Int) 0 0 = true := by rw [has_iff]; exact ⟨hm, by omega⟩
      have h2 : has 0 0 (wd : Int) (ht : Int) (0 + wd - 1) (0 + ht - 1) = true := by rw [has_iff]; exact ⟨hm, by omega⟩
      simp only [wi, Bool.and_eq_true]
      exact ⟨hm, h1, h2⟩
    have HR := hide (reckon_any p q b N cl (n : Nat) wd ht (List.replicate N 0) tl f (sl w4.heap.size 1) [⟨0, 0, wd, ht⟩] w5 hwd HN.out d5 s5 (by simp) (fun u hu => by rw [(List.mem_replicate.1 hu).2]; omega) hE5 R5 (by simp) hwi)
    have hst := stL_right (W := wd) (H := ht) (l := List.replicate N 0) (rl := [⟨0, 0, wd, ht⟩]) HN.out hwd (fun x y h => car_has (tl := tl) (f := f) (c := cl) h) (by simp) (fun k hk h => by rw [mkR_all hwd.1.1 (by rw [← HN.out]; exact hk)] at h; cases h)
    rw [hst] at HR
    have HB := hide BW5
    have HD := hide d5
    have HW5 := hide hw5
    have hpb := d5.ne s5
    clear hst R5 hE5 hwi BW5 d5 s5 d4 s4 HK HE HA HC HS hmk hw5
    go_wp2_with fail
    rw [HW5.out]
    refine HR.out.mono ?_
    rintro e w6 ⟨rfl, s6, t6⟩
    have HD6 := hide (HD.out.kept t6 hpb)
    have HB6 := hide (HB.out.trans (t6.below (B := w.heap.size) (fun k hk => by omega) HB.out.size))
    have HS6 := hide s6
    clear HR s6 t6 f0 f1 f2 f3
    go_wp2_with fail
    go_ret2
    exact ⟨p, b, rfl, ⟨HD6.out, HS6.out⟩, HB6.out, hbl⟩
  refine wp_region_held_drew (S := fun wx => (wx.cell? ⟨w1.heap.size, 0, none⟩ = some (.int .i64 0) ∧ wx.cell? ⟨w1.heap.size, 1, none⟩ = some (.int .i64 0) ∧ wx.cell? ⟨w1.heap.size, 2, none⟩ = some (.int .i64 wd) ∧ wx.cell? ⟨w1.heap.size, 3, none⟩ = some (.int .i64 ht))) (by kernel_rfl) (HS.out _ (Below.refl _ _).drew) (fun hHeld => ?_)
  refine wpAnyH_take (i := 0) (v := ?_) rfl (by kernel_rfl) (by kernel_rfl) (by kernel_rfl) (fun _ _ _ h => h.elim) (Or.inl ⟨by rfl, ?_⟩) (by assumption) ?_
  rotate_left
  · intro wx hSw
    try dsimp only at hSw
    go_simp
    try with_reducible rfl
  try simp only [Act.put, List.getElem_toArray, List.getElem_cons_zero, List.getElem_cons_succ, List.setIfInBounds_toArray, List.set_cons_zero, List.set_cons_succ]
  refine wpAnyH_take (i := 1) (v := ?_) rfl (by kernel_rfl) (by kernel_rfl) (by kernel_rfl) (fun _ _ _ h => h.elim) (Or.inl ⟨by rfl, ?_⟩) (by assumption) ?_
  rotate_left
  · intro wx hSw
    try dsimp only at hSw
    go_simp
    try with_reducible rfl
  try simp only [Act.put, List.getElem_toArray, List.getElem_cons_zero, List.getElem_cons_succ, List.setIfInBounds_toArray, List.set_cons_zero, List.set_cons_succ]
  refine wpAnyH_take (i := 2) (v := ?_) rfl (by kernel_rfl) (by kernel_rfl) (by kernel_rfl) (fun _ _ _ h => h.elim) (Or.inl ⟨by rfl, ?_⟩) (by assumption) ?_
  rotate_left
  · intro wx hSw
    try dsimp only at hSw
    go_simp
    try with_reducible rfl
  try simp only [Act.put, List.getElem_toArray, List.getElem_cons_zero, List.getElem_cons_succ, List.setIfInBounds_toArray, List.set_cons_zero, List.set_cons_succ]
  refine wpAnyH_take (i := 3) (v := ?_) rfl (by kernel_rfl) (by kernel_rfl) (by kernel_rfl) (fun _ _ _ h => h.elim) (Or.inl ⟨by rfl, ?_⟩) (by assumption) ?_
  rotate_left
  · intro wx hSw
    try dsimp only at hSw
    go_simp
    try with_reducible rfl
  try simp only [Act.put, List.getElem_toArray, List.getElem_cons_zero, List.getElem_cons_succ, List.setIfInBounds_toArray, List.set_cons_zero, List.set_cons_succ]
  refine wpAnyH_take (i := 4) (v := ?_) rfl (by kernel_rfl) (by kernel_rfl) (by kernel_rfl) (fun _ _ _ h => h.elim) (Or.inl ⟨by rfl, ?_⟩) (by assumption) ?_
  rotate_left
  · intro wx hSw
    try dsimp only at hSw
    go_simp
    try with_reducible rfl
  try simp only [Act.put, List.getElem_toArray, List.getElem_cons_zero, List.getElem_cons_succ, List.setIfInBounds_toArray, List.set_cons_zero, List.set_cons_succ]
  refine wpAnyH_take (i := 5) (v := ?_) rfl (by kernel_rfl) (by kernel_rfl) (by kernel_rfl) (fun _ _ _ h => h.elim) (Or.inl ⟨by rfl, ?_⟩) (by assumption) ?_
  rotate_left
  · intro wx hSw
    try dsimp only at hSw
    go_simp
    try with_reducible rfl
  try simp only [Act.put, List.getElem_toArray, List.getElem_cons_zero, List.getElem_cons_succ, List.setIfInBounds_toArray, List.set_cons_zero, List.set_cons_succ]
  refine wpAnyH_take (i := 6) (v := ?_) rfl (by kernel_rfl) (by kernel_rfl) (by kernel_rfl) (fun _ _ _ h => h.elim) (Or.inl ⟨by rfl, ?_⟩) (by assumption) ?_
  rotate_left
  · intro wx hSw
    try dsimp only at hSw
    go_simp
    try with_reducible rfl
  try simp only [Act.put, List.getElem_toArray, List.getElem_cons_zero, List.getElem_cons_succ, List.setIfInBounds_toArray, List.set_cons_zero, List.set_cons_succ]
  refine wpAnyH_take (i := 7) (v := ?_) rfl (by kernel_rfl) (by kernel_rfl) (by kernel_rfl) (fun _ _ _ h => h.elim) (Or.inl ⟨by rfl, ?_⟩) (by assumption) ?_
  rotate_left
  · intro wx hSw
    try dsimp only at hSw
    go_simp
    try with_reducible rfl
  try simp only [Act.put, List.getElem_toArray, List.getElem_cons_zero, List.getElem_cons_succ, List.setIfInBounds_toArray, List.set_cons_zero, List.set_cons_succ]
  refine wpAnyH_take (i := 9) (v := ?_) rfl (by kernel_rfl) (by kernel_rfl) (by kernel_rfl) (fun _ _ _ h => h.elim) (Or.inl ⟨by rfl, ?_⟩) (by assumption) ?_
  rotate_left
  · intro wx hSw
    try dsimp only at hSw
    go_simp
    try with_reducible rfl
  try simp only [Act.put, List.getElem_toArray, List.getElem_cons_zero, List.getElem_cons_succ, List.setIfInBounds_toArray, List.set_cons_zero, List.set_cons_succ]
  refine wpAnyH_ready (rs := [8, 10]) (by kernel_rfl) (by simp) ?_
  refine AllReadyH.cons rfl (fun K hK => ?_) ?_
  · go_simp
    have s1 : Szs (X.alloc (.cells (Array.replicate N (.int .u8 0)) 5)).drew X.heap.size (List.replicate N 0) := made_sizes2 N X
    have b1 : Below X.heap.size X (X.alloc (.cells (Array.replicate N (.int .u8 0)) 5)).drew := (box1 X _).drew
    generalize hZ : (X.alloc (.cells (Array.replicate N (.int .u8 0)) 5)).drew = Z at s1 b1 ⊢
    have HZ := hide hZ
    clear hZ
    refine hK.out _ _ ?_ (fun hHeld => ?_)
    · first | exact HS.out _ (Below.refl _ _).drew | exact HS.out _ b1 | exact HS.out _ b2
    clear hK K
    try simp only [Act.put, List.getElem_toArray, List.getElem_cons_zero, List.getElem_cons_succ, List.setIfInBounds_toArray, List.set_cons_zero, List.set_cons_succ]
    refine wpAnyH_ready (rs := [10]) (by kernel_rfl) (by simp) ?_
    refine AllReadyH.cons rfl (fun K hK => ?_) ?_
    · go_simp
      refine (HE.out _ (bt BX b1)).mono ?_
      rintro e z1 ⟨rfl, hz1⟩
      try go_wp2_with fail
      have hz2 := hz1.symm
      subst hz2
      refine hK.out _ _ ?_ (fun hHeld => ?_)
      · first | exact HS.out _ (Below.refl _ _).drew | exact HS.out _ b1 | exact HS.out _ b2
      clear hK K
      try simp only [Act.put, List.getElem_toArray, List.getElem_cons_zero, List.getElem_cons_succ, List.setIfInBounds_toArray, List.set_cons_zero, List.set_cons_succ]
      refine wpAnyH_take (i := 11) (v := ?_) rfl (by kernel_rfl) (by kernel_rfl) (by kernel_rfl) (fun _ _ _ h => h.elim) (Or.inl ⟨by rfl, ?_⟩) (by assumption) ?_
      rotate_left
      · intro wx hSw
        try dsimp only at hSw
        go_simp
        try with_reducible rfl
      try simp only [Act.put, List.getElem_toArray, List.getElem_cons_zero, List.getElem_cons_succ, List.setIfInBounds_toArray, List.set_cons_zero, List.set_cons_succ]
      refine wpAnyH_ready (rs := [12]) (by kernel_rfl) (by simp) ?_
      refine AllReadyH.cons rfl (fun K hK => ?_) ?_
      · go_simp
        have d1 : Fd (Z.alloc (.cells #[ptr q, .int .i64 cl, .int .i64 0, .int .i64 0, .int .i64 wd, .int .i64 ht, sl X.heap.size N, .int .i64 (n : Nat)] 107)) Z.heap.size q cl wd ht X.heap.size N (n : Nat) := heap_alloc_new Z _
        have b2 : Below X.heap.size X (Z.alloc (.cells #[ptr q, .int .i64 cl, .int .i64 0, .int .i64 0, .int .i64 wd, .int .i64 ht, sl X.heap.size N, .int .i64 (n : Nat)] 107)) := bt b1 (box1 _ _)
        have s2 : Szs (Z.alloc (.cells #[ptr q, .int .i64 cl, .int .i64 0, .int .i64 0, .int .i64 wd, .int .i64 ht, sl X.heap.size N, .int .i64 (n : Nat)] 107)) X.heap.size (List.replicate N 0) := s1.upto (box1 _ _)
        refine hK.out _ _ ?_ (fun hHeld => ?_)
        · first | exact HS.out _ (Below.refl _ _).drew | exact HS.out _ b1 | exact HS.out _ b2
        clear hK K
        try simp only [Act.put, List.getElem_toArray, List.getElem_cons_zero, List.getElem_cons_succ, List.setIfInBounds_toArray, List.set_cons_zero, List.set_cons_succ]
        refine wpAnyH_take (i := 13) (v := ?_) rfl (by kernel_rfl) (by kernel_rfl) (by kernel_rfl) (fun _ _ _ h => h.elim) (Or.inl ⟨by rfl, ?_⟩) (by assumption) ?_
        rotate_left
        · intro wx hSw
          try dsimp only at hSw
          go_simp
          try with_reducible rfl
        try simp only [Act.put, List.getElem_toArray, List.getElem_cons_zero, List.getElem_cons_succ, List.setIfInBounds_toArray, List.set_cons_zero, List.set_cons_succ]
        refine wpAnyH_done (by kernel_rfl) ?_ _
        exact ⟨_, _, _, _, _, _, _, _, _, _, _, _, _, _, ⟨⟨d1, s2⟩, b2, Nat.le_refl _⟩, rfl⟩
      exact AllReadyH.nil
    exact AllReadyH.nil
  refine AllReadyH.cons rfl (fun K hK => ?_) ?_
  · go_simp
    refine (HE.out _ (bt BX (Below.refl _ _).drew)).mono ?_
    rintro e z1 ⟨rfl, hz1⟩
    try go_wp2_with fail
    have hz2 := hz1.symm
    subst hz2
    refine hK.out _ _ ?_ (fun hHeld => ?_)
    · first | exact HS.out _ (Below.refl _ _).drew | exact HS.out _ b1 | exact HS.out _ b2
    clear hK K
    try simp only [Act.put, List.getElem_toArray, List.getElem_cons_zero, List.getElem_cons_succ, List.setIfInBounds_toArray, List.set_cons_zero, List.set_cons_succ]
    refine wpAnyH_ready (rs := [8]) (by kernel_rfl) (by simp) ?_
    refine AllReadyH.cons rfl (fun K hK => ?_) ?_
    · go_simp
      have s1 : Szs (X.alloc (.cells (Array.replicate N (.int .u8 0)) 5)).drew X.heap.size (List.replicate N 0) := made_sizes2 N X
      have b1 : Below X.heap.size X (X.alloc (.cells (Array.replicate N (.int .u8 0)) 5)).drew := (box1 X _).drew
      generalize hZ : (X.alloc (.cells (Array.replicate N (.int .u8 0)) 5)).drew = Z at s1 b1 ⊢
      have HZ := hide hZ
      clear hZ
      refine hK.out _ _ ?_ (fun hHeld => ?_)
      · first | exact HS.out _ (Below.refl _ _).drew | exact HS.out _ b1 | exact HS.out _ b2
      clear hK K
      try simp only [Act.put, List.getElem_toArray, List.getElem_cons_zero, List.getElem_cons_succ, List.setIfInBounds_toArray, List.set_cons_zero, List.set_cons_succ]
      refine wpAnyH_take (i := 11) (v := ?_) rfl (by kernel_rfl) (by kernel_rfl) (by kernel_rfl) (fun _ _ _ h => h.elim) (Or.inl ⟨by rfl, ?_⟩) (by assumption) ?_
      rotate_left
      · intro wx hSw
        try dsimp only at hSw
        go_simp
        try with_reducible rfl
      try simp only [Act.put, List.getElem_toArray, List.getElem_cons_zero, List.getElem_cons_succ, List.setIfInBounds_toArray, List.set_cons_zero, List.set_cons_succ]
      refine wpAnyH_ready (rs := [12]) (by kernel_rfl) (by simp) ?_
      refine AllReadyH.cons rfl (fun K hK => ?_) ?_
      · go_simp
        have d1 : Fd (Z.alloc (.cells #[ptr q, .int .i64 cl, .int .i64 0, .int .i64 0, .int .i64 wd, .int .i64 ht, sl X.heap.size N, .int .i64 (n : Nat)] 107)) Z.heap.size q cl wd ht X.heap.size N (n : Nat) := heap_alloc_new Z _
        have b2 : Below X.heap.size X (Z.alloc (.cells #[ptr q, .int .i64 cl, .int .i64 0, .int .i64 0, .int .i64 wd, .int .i64 ht, sl X.heap.size N, .int .i64 (n : Nat)] 107)) := bt b1 (box1 _ _)
        have s2 : Szs (Z.alloc (.cells #[ptr q, .int .i64 cl, .int .i64 0, .int .i64 0, .int .i64 wd, .int .i64 ht, sl X.heap.size N, .int .i64 (n : Nat)] 107)) X.heap.size (List.replicate N 0) := s1.upto (box1 _ _)
        refine hK.out _ _ ?_ (fun hHeld => ?_)
        · first | exact HS.out _ (Below.refl _ _).drew | exact HS.out _ b1 | exact HS.out _ b2
        clear hK K
        try simp only [Act.put, List.getElem_toArray, List.getElem_cons_zero, List.getElem_cons_succ, List.setIfInBounds_toArray, List.set_cons_zero, List.set_cons_succ]
        refine wpAnyH_take (i := 13) (v := ?_) rfl (by kernel_rfl) (by kernel_rfl) (by kernel_rfl) (fun _ _ _ h => h.elim) (Or.inl ⟨by rfl, ?_⟩) (by assumption) ?_
        rotate_left
        · intro wx hSw
          try dsimp only at hSw
          go_simp
          try with_reducible rfl
        try simp only [Act.put, List.getElem_toArray, List.getElem_cons_zero, List.getElem_cons_succ, List.setIfInBounds_toArray, List.set_cons_zero, List.set_cons_succ]
        refine wpAnyH_done (by kernel_rfl) ?_ _
        exact ⟨_, _, _, _, _, _, _, _, _, _, _, _, _, _, ⟨⟨d1, s2⟩, b2, Nat.le_refl _⟩, rfl⟩
      exact AllReadyH.nil
    exact AllReadyH.nil
  exact AllReadyH.nil
end Go.Proofs.YtoheibfijpdmfaaDoor
