/-
  OccupyApart, walked.
-/
import Derived.Test.YtkodeopkgmichaaApPre
namespace Go.Proofs.Ytkodeopkgmichaa
open Go.RowKit Go.Shelf
set_option linter.unusedVariables false
set_option linter.unusedSimpArgs false
attribute [local go_sem] Oper.semAt_some
set_option maxRecDepth 100000 in
set_option maxHeartbeats 20000000 in
theorem apart_walk (v0 : Value) (K : List Ac) (w : World) (h : AcR w v0 K) :
    Calls Try.prog 5 #[v0] w fun e w' => e = .returned (.bool true) ∧ Below w.heap.size w w' := by
  obtain ⟨a0, c0, rfl, hlc, hcm, hok, hat⟩ := h
  have HAt := hide hat
  have HOk := hide hok
  have hKm : (K.length : Int) ≤ 9223372036854775807 := by unfold maxLen at hcm; omega
  clear hat hok hlc hcm
  refine (callsIn_wide (n := 10)).1 ?_
  refine callsIn_of_wp_marks Try.func5 rfl trivial ?_ rfl
  simp only [Try.ntmps5, List.size_toArray, List.length_cons, List.length_nil, Nat.reduceAdd, Nat.reduceSub, Array.replicate_succ, Array.replicate_zero, List.push_toArray, List.append_toArray, List.nil_append, List.cons_append]
  gi_wp2_with fail
  refine ⟨trivial, ?_⟩
  refine (callsIn_wide.2 (awake_any _)).mono ?_
  rintro e w1 ⟨rfl, hb1⟩
  gi_wp2_with fail
  refine ⟨trivial, ?_⟩
  refine (callsIn_wide.2 (new_any _)).mono ?_
  rintro e w2 ⟨rfl, hb2, h2⟩
  obtain ⟨X0, hX0⟩ : ∃ X0, (w2.alloc (.cells #[.slice none 0 0] 29)).alloc (.cells #[ptr w2.heap.size] 26) = X0 := ⟨_, rfl⟩
  obtain ⟨fm, hfm⟩ : ∃ fm, w1.heap.size = fm := ⟨_, rfl⟩
  obtain ⟨r, hr⟩ : ∃ r, w2.heap.size = r := ⟨_, rfl⟩
  have HA0 : Hid (Ap w X0 fm r (r + 1) 0 (.slice none 0 0) [] [] []) := hide (Ap.begin hb1 hb2 h2 hX0 hfm hr)
  rw [hr] at hX0
  clear hb1 hb2 h2
  gi_wp2_with (first | rw [hX0])
  obtain ⟨yb, hyb⟩ : ∃ yb, r + 1 = yb := ⟨_, rfl⟩
  rw [hyb] at HA0 ⊢
  clear hX0 hfm hr hyb
  refine wpIn_loop (fun a X => ∃ (i m : Nat) (v : Value) (l : List Bd) (Ds : List Nat), Ap w X fm r yb m v l l Ds ∧ m ≤ 16 * i ∧ i ≤ K.length ∧ i ≤ 400 ∧ ∃ u : Nat → Value, a = { tmps := #[.slice a0 K.length c0, undef, ptr w.heap.size, ptr (fm + 1 + 1), ptr yb, .int .i64 (i : Nat), u 6, u 7, u 8, u 9, .bool true, .bool false, ptr (fm + 1 + 1), .agg #[.slice none 0 0], ptr r, u 15, u 16, u 17, u 18, u 19, u 20, u 21, u 22, u 23, u 24, u 25, u 26, u 27, u 28, u 29, u 30, u 31, u 32, u 33, u 34, u 35, u 36, u 37, u 38, u 39, u 40, u 41, u 42, u 43, u 44, u 45, u 46, u 47, u 48, u 49, u 50, u 51, u 52, u 53, u 54, u 55, u 56, u 57, u 58, u 59, u 60, u 61, u 62, u 63, u 64, u 65, u 66, u 67, u 68, u 69, u 70, u 71, u 72, u 73, u 74, u 75, u 76, u 77, u 78, u 79, u 80, u 81, u 82, u 83, u 84, u 85, u 86, u 87, u 88, u 89, u 90, u 91, u 92, u 93, u 94, u 95, u 96, u 97, u 98, u 99, u 100, u 101, u 102, u 103, u 104, u 105, u 106, u 107, u 108, u 109, u 110, u 111, u 112, u 113, u 114, u 115, u 116, undef], defers := Ds.map mark }) (fun a _ => 401 - (intOf ((a.tmps[5]?).getD undef)).toNat) ?start ?round
  case start => exact ⟨0, 0, _, _, [], HA0.out, Nat.zero_le _, Nat.zero_le _, Nat.zero_le _, mkU _ _ _ rfl⟩
  case round =>
    rintro a X ⟨i, m, v, l, Ds, hA, hmi, hi, hi4, u, rfl⟩
    clear HA0
    dsimp only
    have o1 := hA.o1
    have o2 := hA.o2
    have o3 := hA.o3
    by_cases hlt : i < K.length ∧ i < 400
    · obtain ⟨t, ht⟩ : ∃ t, K[i]? = some t := ⟨_, List.getElem?_eq_getElem hlt.1⟩
      have hokt := HOk.out t (List.mem_of_getElem? ht)
      obtain ⟨g, o, rfl, hgw, -, -, -, -, -, -⟩ := id (HAt.out i t ht)
      obtain ⟨g', o', e', -, d0, d1, d2, d3, d4, d5⟩ := (HAt.out i t ht).kept hA.below (Nat.le_refl _)
      cases e'
      have hki : (i : Int) < (K.length : Nat) ∧ (0 : Int) ≤ (i : Nat) ∧ (i : Int) < 400 := by omega
      have hmm : m + 16 < maxLen := by unfold maxLen; omega
      have hSA : (fun Z : World => Z.cell? ⟨g, o + i * 6 + 1, none⟩ = some (.int .i64 t.i) ∧ Z.cell? ⟨g, o + i * 6 + 2, none⟩ = some (.int .i64 t.x) ∧ Z.cell? ⟨g, o + i * 6 + 3, none⟩ = some (.int .i64 t.y) ∧ Z.cell? ⟨g, o + i * 6 + 4, none⟩ = some (.int .i64 t.a) ∧ Z.cell? ⟨g, o + i * 6 + 5, none⟩ = some (.int .i64 t.b)) X.drew := ⟨d1, d2, d3, d4, d5⟩
      by_cases q1 : Int.tmod t.d 3 = 1
      · have e1 : decide (Int.tmod t.d 3 = 1) = true := by simpa using q1
        gi_wp2_with fail
        refine wpIn_only ?_
        refine wpIn_wide.2 ?_
        refine wp_region_z (fun Z : World => Z.cell? ⟨g, o + i * 6 + 1, none⟩ = some (.int .i64 t.i) ∧ Z.cell? ⟨g, o + i * 6 + 2, none⟩ = some (.int .i64 t.x) ∧ Z.cell? ⟨g, o + i * 6 + 3, none⟩ = some (.int .i64 t.y) ∧ Z.cell? ⟨g, o + i * 6 + 4, none⟩ = some (.int .i64 t.a) ∧ Z.cell? ⟨g, o + i * 6 + 5, none⟩ = some (.int .i64 t.b)) 13 (by kernel_rfl) ?_
        refine anyZ_take 0 8 (v := ptr (fm + 1 + 1)) rfl (by kernel_rfl) (fun _ _ _ h => h.elim) (Or.inl ⟨by rfl, fun wx hx => run_mv (by rfl) (by rfl)⟩) hSA ?_
        try simp only [Act.put, List.getElem_toArray, List.getElem_cons_zero, List.getElem_cons_succ, List.setIfInBounds_toArray, List.set_cons_zero, List.set_cons_succ]
        refine anyZ_take 1 8 (v := .slice (some ⟨g, o, none⟩) K.length c0) rfl (by kernel_rfl) (fun _ _ _ h => h.elim) (Or.inl ⟨by rfl, fun wx hx => run_mv (by rfl) (by rfl)⟩) hSA ?_
        try simp only [Act.put, List.getElem_toArray, List.getElem_cons_zero, List.getElem_cons_succ, List.setIfInBounds_toArray, List.set_cons_zero, List.set_cons_succ]
        refine anyZ_take 2 8 (v := .int .i64 (i : Nat)) rfl (by kernel_rfl) (fun _ _ _ h => h.elim) (Or.inl ⟨by rfl, fun wx hx => run_mv (by rfl) (by rfl)⟩) hSA ?_
        try simp only [Act.put, List.getElem_toArray, List.getElem_cons_zero, List.getElem_cons_succ, List.setIfInBounds_toArray, List.set_cons_zero, List.set_cons_succ]
        refine anyZ_take 3 8 (v := .pointer (some ⟨g, o + i * 6, none⟩)) rfl (by kernel_rfl) (fun _ _ _ h => h.elim) (Or.inl ⟨by rfl, fun wx hx => run_idx22 (by rfl) (by rfl) (by rfl) hlt.1⟩) hSA ?_
        try simp only [Act.put, List.getElem_toArray, List.getElem_cons_zero, List.getElem_cons_succ, List.setIfInBounds_toArray, List.set_cons_zero, List.set_cons_succ]
        refine anyZ_take 4 8 (v := .pointer (some ⟨g, o + i * 6 + 1, none⟩)) rfl (by kernel_rfl) (fun _ _ _ h => h.elim) (Or.inl ⟨by rfl, fun wx hx => run_b1 (by rfl) (by rfl)⟩) hSA ?_
        try simp only [Act.put, List.getElem_toArray, List.getElem_cons_zero, List.getElem_cons_succ, List.setIfInBounds_toArray, List.set_cons_zero, List.set_cons_succ]
        refine anyZ_take 5 8 (v := .int .i64 t.i) rfl (by kernel_rfl) (fun _ _ _ h => h.elim) (Or.inl ⟨by rfl, fun wx hx => run_i (by rfl) (by rfl) hx.1⟩) hSA ?_
        try simp only [Act.put, List.getElem_toArray, List.getElem_cons_zero, List.getElem_cons_succ, List.setIfInBounds_toArray, List.set_cons_zero, List.set_cons_succ]
        refine anyZ_take 6 8 (v := .slice (some ⟨g, o, none⟩) K.length c0) rfl (by kernel_rfl) (fun _ _ _ h => h.elim) (Or.inl ⟨by rfl, fun wx hx => run_mv (by rfl) (by rfl)⟩) hSA ?_
        try simp only [Act.put, List.getElem_toArray, List.getElem_cons_zero, List.getElem_cons_succ, List.setIfInBounds_toArray, List.set_cons_zero, List.set_cons_succ]
        refine anyZ_take 7 8 (v := .int .i64 (i : Nat)) rfl (by kernel_rfl) (fun _ _ _ h => h.elim) (Or.inl ⟨by rfl, fun wx hx => run_mv (by rfl) (by rfl)⟩) hSA ?_
        try simp only [Act.put, List.getElem_toArray, List.getElem_cons_zero, List.getElem_cons_succ, List.setIfInBounds_toArray, List.set_cons_zero, List.set_cons_succ]
        refine anyZ_take 8 8 (v := .pointer (some ⟨g, o + i * 6, none⟩)) rfl (by kernel_rfl) (fun _ _ _ h => h.elim) (Or.inl ⟨by rfl, fun wx hx => run_idx22 (by rfl) (by rfl) (by rfl) hlt.1⟩) hSA ?_
        try simp only [Act.put, List.getElem_toArray, List.getElem_cons_zero, List.getElem_cons_succ, List.setIfInBounds_toArray, List.set_cons_zero, List.set_cons_succ]
        refine anyZ_take 9 8 (v := .pointer (some ⟨g, o + i * 6 + 2, none⟩)) rfl (by kernel_rfl) (fun _ _ _ h => h.elim) (Or.inl ⟨by rfl, fun wx hx => run_b2 (by rfl) (by rfl)⟩) hSA ?_
        try simp only [Act.put, List.getElem_toArray, List.getElem_cons_zero, List.getElem_cons_succ, List.setIfInBounds_toArray, List.set_cons_zero, List.set_cons_succ]
        refine anyZ_take 10 8 (v := .pointer (some ⟨g, o + i * 6 + 2, none⟩)) rfl (by kernel_rfl) (fun _ _ _ h => h.elim) (Or.inl ⟨by rfl, fun wx hx => run_a0 (by rfl) (by rfl)⟩) hSA ?_
        try simp only [Act.put, List.getElem_toArray, List.getElem_cons_zero, List.getElem_cons_succ, List.setIfInBounds_toArray, List.set_cons_zero, List.set_cons_succ]
        refine anyZ_take 11 8 (v := cel t.x t.y) rfl (by kernel_rfl) (fun _ _ _ h => h.elim) (Or.inl ⟨by rfl, fun wx hx => run_cO (by rfl) (by rfl) hx.2.1 hx.2.2.1⟩) hSA ?_
        try simp only [Act.put, List.getElem_toArray, List.getElem_cons_zero, List.getElem_cons_succ, List.setIfInBounds_toArray, List.set_cons_zero, List.set_cons_succ]
        refine anyZ_ready (rs := [12]) (by kernel_rfl) (by simp) ?_
        refine readyZ.call rfl rfl (run_call17 (by rfl) (by rfl) (by simp only [List.map_toArray, List.map_cons, List.map_nil]; rfl)) (move_st (x := t.x) (y := t.y) (hA.kept (Below.refl _ _).drew).st hokt.2.1 hmm) ?_ readyZ.nil
        rintro e X1 ⟨rfl, ⟨m1, hm1, s1⟩, t1⟩
        refine ⟨_, rfl, fun _ => ?_, ?_⟩
        · exact ⟨t1.cell (by omega) d1, t1.cell (by omega) d2, t1.cell (by omega) d3, t1.cell (by omega) d4, t1.cell (by omega) d5⟩
        try simp only [Act.put, List.getElem_toArray, List.getElem_cons_zero, List.getElem_cons_succ, List.setIfInBounds_toArray, List.set_cons_zero, List.set_cons_succ]
        refine anyZ_ready (rs := [13]) (by kernel_rfl) (by simp) ?_
        refine readyZ.cons rfl rfl (run_as (v := .int .i64 (moveC l t.i t.x t.y)) (by rfl) (by rfl)) (fun h => absurd rfl h) ?_ readyZ.nil
        try simp only [Act.put, List.getElem_toArray, List.getElem_cons_zero, List.getElem_cons_succ, List.setIfInBounds_toArray, List.set_cons_zero, List.set_cons_succ]
        refine anyZ_done (by kernel_rfl) ?_ _
        dsimp only [Only]
        have A1 := (hA.kept (Below.refl _ _).drew).act s1 t1
        obtain ⟨l1, hl1⟩ : ∃ l1, moveL l t.i t.x t.y = l1 := ⟨_, rfl⟩
        have hz : moveC l t.i t.x t.y ≠ 0 → l1 = l := fun h => hl1 ▸ move_zero h
        obtain ⟨c, hc⟩ : ∃ c, moveC l t.i t.x t.y = c := ⟨_, rfl⟩
        rw [hl1] at A1
        rw [hc] at hz ⊢
        clear hl1 hc s1 t1 d0 d1 d2 d3 d4 d5 hSA
        by_cases hc0 : c = 0
        · subst hc0
          have cY := A1.yx.cell
          have cR := A1.rx.c
          have fR := Boxed.frozen A1.rx.blk
          have HA2 := hide A1.clear
          clear A1 hz hA
          gi_wp2_with fail
          refine ⟨trivial, ?_⟩
          gi_wp2_with fail
          obtain ⟨Y, hY⟩ : ∃ Y, X1.setCell ⟨r, 0, none⟩ (.slice none 0 0) = Y := ⟨_, rfl⟩
          rw [hY] at HA2 ⊢
          clear hY cR fR
          refine ⟨trivial, ?_⟩
          refine (callsIn_wide.2 (all_is _ _)).mono ?_
          rintro e X4 ⟨rfl, hX4⟩
          have A4 := HA2.out.kept (show Below Y.heap.size Y X4 from hX4 ▸ box1 _ _)
          have m3 : Boxed X4 Y.heap.size 24 (ptr (fm + 1 + 1)) := by rw [hX4]; exact Boxed.new _ _ _
          have hF := A4.st.fine
          have z4 := A4.yx.lt
          have y4 := A4.bx.lt
          obtain ⟨cb, hcb⟩ : ∃ cb, Y.heap.size = cb := ⟨_, rfl⟩
          rw [hcb] at m3 ⊢
          clear hX4 HA2 hcb
          gi_wp2_with fail
          refine range_all (by omega) (c := cb) (p := fm + 1 + 1) rfl m3 A4.st rfl (fun C pre W => ∃ v', Ar w X4 W r yb C v' pre) ?hI ?h0
            (fun x a' W => ∃ q, X4.heap.size + 2 ≤ q ∧ Bq W q x.r ∧ ∃ u : Nat → Value, a' = { tmps := #[.slice (some ⟨g, o, none⟩) K.length c0, undef, ptr w.heap.size, ptr (fm + 1 + 1), ptr yb, .int .i64 (i : Nat), u 6, .int .i64 x.id, ptr q, u 9, .bool true, .bool false, ptr (fm + 1 + 1), .agg #[.slice none 0 0], ptr r, u 15, u 16, u 17, u 18, u 19, u 20, u 21, u 22, u 23, u 24, u 25, u 26, u 27, u 28, u 29, u 30, u 31, u 32, u 33, u 34, u 35, u 36, u 37, u 38, u 39, u 40, u 41, u 42, u 43, u 44, u 45, u 46, u 47, u 48, u 49, u 50, u 51, u 52, u 53, u 54, u 55, u 56, u 57, u 58, u 59, u 60, u 61, u 62, u 63, u 64, u 65, u 66, u 67, u 68, u 69, u 70, u 71, u 72, u 73, u 74, u 75, u 76, u 77, u 78, u 79, .int .i64 x.id, x.r.v, u 82, u 83, u 84, u 85, u 86, u 87, u 88, u 89, u 90, u 91, u 92, u 93, u 94, u 95, u 96, u 97, u 98, u 99, u 100, u 101, u 102, u 103, u 104, u 105, u 106, u 107, u 108, u 109, u 110, u 111, u 112, u 113, u 114, u 115, u 116, undef], defers := [] }) ?hAx ?assign ?body ?done
          case hI =>
            rintro C pre V1 V2 ⟨v', hAr⟩ tt
            exact ⟨v', hAr.inner (by omega) z4 y4 tt⟩
          case h0 =>
            intro W hzW hbW
            have A5 := A4.kept hbW
            exact ⟨_, ⟨A5.rx, fun k e => by simp [Value.ownBlock] at e, A5.bx, A5.yx, Turns.of_below hbW, by omega⟩⟩
          case hAx =>
            rintro x a' V1 V2 ⟨q, hq1, hq2, hq3⟩ tt
            exact ⟨q, hq1, tt.same (by omega) hq2, hq3⟩
          case assign =>
            rintro lo C pre x W K1 ⟨v', hAr⟩ hpre hCW hVC hK1
            gi_wp2
            have hb1 := box1 W (.cells #[.int .i64 x.r.x, .int .i64 x.r.y, .int .i64 x.r.a, .int .i64 x.r.b] 34)
            refine hK1 _ _ (Kr.of_below hb1) ⟨v', hAr.kept hb1⟩ ⟨W.heap.size, by omega, heap_alloc_new W _, ?_⟩
            exact mkU _ _ _ rfl
          case body =>
            rintro lo C pre x a' W hlo ⟨v', hAr⟩ ⟨q, hq, bq, u, rfl⟩ hpre hCW hVC
            dsimp only
            have hxm : x ∈ _ := hpre.subset (List.mem_append_right _ (List.mem_singleton_self x))
            have hpl : pre.length ≤ 256 := by have h1 := hpre.length_le; have h2 := hF.len; simp at h1; omega
            obtain ⟨av, cap1, rfl, hcp, hcm, hat⟩ := hAr.rx.us.form
            gi_wp2_with fail
            gi_loopw [9] (fun d wr => ∃ k : Nat, k ≤ pre.length ∧ d = .int .i64 k ∧ Below W.heap.size W wr) (fun d _ => pre.length - (intOf d).toNat)
            case atStart => exact ⟨0, Nat.zero_le _, rfl, Below.refl _ _⟩
            case round =>
              obtain ⟨k, hk, rfl, hBk⟩ := hrel
              have Ak := hAr.kept hBk
              have bqk := bq.kept hBk
              have cY := Ak.yx.cell
              have cR := Ak.rx.c
              have hkI : (0 : Int) ≤ (k : Nat) ∧ (pre.length : Int) ≤ 256 := by omega
              by_cases hkl : k < pre.length
              · obtain ⟨s, hs⟩ : ∃ s, pre[k]? = some s := ⟨_, List.getElem?_eq_getElem hkl⟩
                have hsm : s ∈ _ := hpre.subset (List.mem_append_left _ (List.mem_of_getElem? hs))
                have hki : (k : Int) < (pre.length : Nat) := by omega
                have hk1 : k ≤ 1000 := by omega
                obtain ⟨g1, rfl, -, -, -, -, -, -⟩ := hat k s hs
                have hSR : (fun Z : World => Z.cell? ⟨yb, 0, none⟩ = some (ptr r) ∧ Z.cell? ⟨r, 0, none⟩ = some (.slice (some ⟨g1, 0, none⟩) pre.length cap1) ∧ Z.cell? ⟨q, 0, none⟩ = some (.int .i64 x.r.x) ∧ Z.cell? ⟨q, 1, none⟩ = some (.int .i64 x.r.y) ∧ Z.cell? ⟨q, 2, none⟩ = some (.int .i64 x.r.a) ∧ Z.cell? ⟨q, 3, none⟩ = some (.int .i64 x.r.b)) wr.drew := ⟨cY, cR, bqk.cells.1, bqk.cells.2.1, bqk.cells.2.2.1, bqk.cells.2.2.2⟩
                have Bb : Hid (Below wr.heap.size wr (wr.drew.alloc (.cells #[.slice (some ⟨g1, k * 5, none⟩) 1 (cap1 - k)] 29))) := hide (bt (Below.refl _ _).drew (box1 wr.drew _))
                have HSb : Hid ((fun Z : World => Z.cell? ⟨yb, 0, none⟩ = some (ptr r) ∧ Z.cell? ⟨r, 0, none⟩ = some (.slice (some ⟨g1, 0, none⟩) pre.length cap1) ∧ Z.cell? ⟨q, 0, none⟩ = some (.int .i64 x.r.x) ∧ Z.cell? ⟨q, 1, none⟩ = some (.int .i64 x.r.y) ∧ Z.cell? ⟨q, 2, none⟩ = some (.int .i64 x.r.a) ∧ Z.cell? ⟨q, 3, none⟩ = some (.int .i64 x.r.b)) (wr.drew.alloc (.cells #[.slice (some ⟨g1, k * 5, none⟩) 1 (cap1 - k)] 29))) := hide (by
                  have A9 := Ak.kept Bb.out
                  have q9 := (bqk.kept Bb.out).cells
                  exact ⟨A9.yx.cell, A9.rx.c, q9.1, q9.2.1, q9.2.2.1, q9.2.2.2⟩)
                have hRx := Us.one (Ak.kept Bb.out).rx.us hs rfl (r := wr.drew.heap.size) (c := cap1 - k) (by omega) (cell_of_row _ _ 0 _ _ _ (heap_alloc_new wr.drew _))
                have HFr := hide (refree_any wr.drew.heap.size (some ⟨g1, k * 5, none⟩) (cap1 - k) [s] x.id x.r.x x.r.y x.r.a x.r.b _ hRx)
                rw [hF.free hsm hxm] at HFr
                clear hRx
                gi_wp2_with fail
                refine wpIn_only ?_
                refine wpIn_region_zR (fun Z : World => Z.cell? ⟨yb, 0, none⟩ = some (ptr r) ∧ Z.cell? ⟨r, 0, none⟩ = some (.slice (some ⟨g1, 0, none⟩) pre.length cap1) ∧ Z.cell? ⟨q, 0, none⟩ = some (.int .i64 x.r.x) ∧ Z.cell? ⟨q, 1, none⟩ = some (.int .i64 x.r.y) ∧ Z.cell? ⟨q, 2, none⟩ = some (.int .i64 x.r.a) ∧ Z.cell? ⟨q, 3, none⟩ = some (.int .i64 x.r.b)) 13 only_in (by kernel_rfl) (by kernel_rfl) ?_
                refine anyZ_take 0 8 (v := ptr r) rfl (by kernel_rfl) (fun _ _ _ h => h.elim) (Or.inl ⟨by rfl, fun wx hx => run_y (by rfl) (by rfl) hx.1⟩) hSR ?_
                try simp only [Act.put, List.getElem_toArray, List.getElem_cons_zero, List.getElem_cons_succ, List.setIfInBounds_toArray, List.set_cons_zero, List.set_cons_succ]
                refine anyZ_take 1 8 (v := ptr r) rfl (by kernel_rfl) (fun _ _ _ h => h.elim) (Or.inl ⟨by rfl, fun wx hx => run_nc (by rfl) (by rfl)⟩) hSR ?_
                try simp only [Act.put, List.getElem_toArray, List.getElem_cons_zero, List.getElem_cons_succ, List.setIfInBounds_toArray, List.set_cons_zero, List.set_cons_succ]
                refine anyZ_take 2 8 (v := ptr r) rfl (by kernel_rfl) (fun _ _ _ h => h.elim) (Or.inl ⟨by rfl, fun wx hx => run_l (by rfl) (by rfl)⟩) hSR ?_
                try simp only [Act.put, List.getElem_toArray, List.getElem_cons_zero, List.getElem_cons_succ, List.setIfInBounds_toArray, List.set_cons_zero, List.set_cons_succ]
                refine anyZ_take 3 8 (v := .slice (some ⟨g1, 0, none⟩) pre.length cap1) rfl (by kernel_rfl) (fun _ _ _ h => h.elim) (Or.inl ⟨by rfl, fun wx hx => run_load (by rfl) (by rfl) hx.2.1⟩) hSR ?_
                try simp only [Act.put, List.getElem_toArray, List.getElem_cons_zero, List.getElem_cons_succ, List.setIfInBounds_toArray, List.set_cons_zero, List.set_cons_succ]
                refine anyZ_take 4 8 (v := .int .i64 (k : Nat)) rfl (by kernel_rfl) (fun _ _ _ h => h.elim) (Or.inl ⟨by rfl, fun wx hx => run_mv (by rfl) (by rfl)⟩) hSR ?_
                try simp only [Act.put, List.getElem_toArray, List.getElem_cons_zero, List.getElem_cons_succ, List.setIfInBounds_toArray, List.set_cons_zero, List.set_cons_succ]
                refine anyZ_take 5 8 (v := .int .i64 (k : Nat)) rfl (by kernel_rfl) (fun _ _ _ h => h.elim) (Or.inl ⟨by rfl, fun wx hx => run_mv (by rfl) (by rfl)⟩) hSR ?_
                try simp only [Act.put, List.getElem_toArray, List.getElem_cons_zero, List.getElem_cons_succ, List.setIfInBounds_toArray, List.set_cons_zero, List.set_cons_succ]
                refine anyZ_take 6 8 (v := .int .i64 ((k : Int) + 1)) rfl (by kernel_rfl) (fun _ _ _ h => h.elim) (Or.inl ⟨by rfl, fun wx hx => run_next (by rfl) (by rfl) (by rfl) hk1⟩) hSR ?_
                try simp only [Act.put, List.getElem_toArray, List.getElem_cons_zero, List.getElem_cons_succ, List.setIfInBounds_toArray, List.set_cons_zero, List.set_cons_succ]
                refine anyZ_take 7 8 (v := .slice (some ⟨g1, k * 5, none⟩) 1 (cap1 - k)) rfl (by kernel_rfl) (fun _ _ _ h => h.elim) (Or.inl ⟨by rfl, fun wx hx => run_part (by rfl) (by rfl) (by rfl) (by rfl) hkl hcp hcm⟩) hSR ?_
                try simp only [Act.put, List.getElem_toArray, List.getElem_cons_zero, List.getElem_cons_succ, List.setIfInBounds_toArray, List.set_cons_zero, List.set_cons_succ]
                refine anyZ_take 8 8 (v := .agg #[.slice (some ⟨g1, k * 5, none⟩) 1 (cap1 - k)]) rfl (by kernel_rfl) (fun _ _ _ h => h.elim) (Or.inl ⟨by rfl, fun wx hx => run_ix (by rfl) (by rfl)⟩) hSR ?_
                try simp only [Act.put, List.getElem_toArray, List.getElem_cons_zero, List.getElem_cons_succ, List.setIfInBounds_toArray, List.set_cons_zero, List.set_cons_succ]
                refine anyZ_take 10 8 (v := rct x.r.x x.r.y x.r.a x.r.b) rfl (by kernel_rfl) (fun _ _ _ h => h.elim) (Or.inl ⟨by rfl, fun wx hx => run_rO (by rfl) (by rfl) hx.2.2.1 hx.2.2.2.1 hx.2.2.2.2.1 hx.2.2.2.2.2⟩) hSR ?_
                try simp only [Act.put, List.getElem_toArray, List.getElem_cons_zero, List.getElem_cons_succ, List.setIfInBounds_toArray, List.set_cons_zero, List.set_cons_succ]
                refine anyZ_take 11 8 (v := .int .i64 x.id) rfl (by kernel_rfl) (fun _ _ _ h => h.elim) (Or.inl ⟨by rfl, fun wx hx => run_mv (by rfl) (by rfl)⟩) hSR ?_
                try simp only [Act.put, List.getElem_toArray, List.getElem_cons_zero, List.getElem_cons_succ, List.setIfInBounds_toArray, List.set_cons_zero, List.set_cons_succ]
                refine anyZ_ready (rs := [9]) (by kernel_rfl) (by simp) ?_
                refine readyZ.cons rfl rfl (run_bx (by rfl) (by rfl)) (fun _ => HSb.out) ?_ readyZ.nil
                try simp only [Act.put, List.getElem_toArray, List.getElem_cons_zero, List.getElem_cons_succ, List.setIfInBounds_toArray, List.set_cons_zero, List.set_cons_succ]
                refine anyZ_ready (rs := [12]) (by kernel_rfl) (by simp) ?_
                refine readyZ.call rfl rfl (run_call21 (by rfl) (by rfl) (by simp only [List.map_toArray, List.map_cons, List.map_nil]; rfl)) HFr.out ?_ readyZ.nil
                rintro e W4 ⟨rfl, hb4⟩
                have Ak4 := Ak.kept (bt Bb.out hb4)
                have bq4 := (bqk.kept Bb.out).kept hb4
                refine ⟨_, rfl, fun _ => ⟨Ak4.yx.cell, Ak4.rx.c, bq4.cells.1, bq4.cells.2.1, bq4.cells.2.2.1, bq4.cells.2.2.2⟩, ?_⟩
                try simp only [Act.put, List.getElem_toArray, List.getElem_cons_zero, List.getElem_cons_succ, List.setIfInBounds_toArray, List.set_cons_zero, List.set_cons_succ]
                refine anyZ_ready (rs := [13]) (by kernel_rfl) (by simp) ?_
                refine readyZ.cons rfl rfl (run_not (b := true) (by rfl) (by rfl)) (fun h => absurd rfl h) ?_ readyZ.nil
                try simp only [Act.put, List.getElem_toArray, List.getElem_cons_zero, List.getElem_cons_succ, List.setIfInBounds_toArray, List.set_cons_zero, List.set_cons_succ]
                refine anyZ_done (by kernel_rfl) ?_ _
                dsimp only [Only, Bool.not_true]
                have HB4 := hide (bt hBk (bt Bb.out hb4))
                clear Ak4 bq4 hb4 HSb HFr hSR Bb
                gi_wp2_with fail
                go_roundw
                case rel => exact ⟨k + 1, by omega, by go_num, HB4.out⟩
                case measure => simp [intOf]; omega
              · obtain rfl : k = pre.length := by omega
                have hki : ¬ ((pre.length : Nat) : Int) < (pre.length : Nat) := by omega
                have hSR : (fun Z : World => Z.cell? ⟨yb, 0, none⟩ = some (ptr r) ∧ Z.cell? ⟨r, 0, none⟩ = some (.slice av pre.length cap1) ∧ Z.cell? ⟨q, 0, none⟩ = some (.int .i64 x.r.x) ∧ Z.cell? ⟨q, 1, none⟩ = some (.int .i64 x.r.y) ∧ Z.cell? ⟨q, 2, none⟩ = some (.int .i64 x.r.a) ∧ Z.cell? ⟨q, 3, none⟩ = some (.int .i64 x.r.b)) wr.drew := ⟨cY, cR, bqk.cells.1, bqk.cells.2.1, bqk.cells.2.2.1, bqk.cells.2.2.2⟩
                have Bb := box1 wr.drew (.cells #[.int .i64 x.id, .int .i64 x.r.x, .int .i64 x.r.y, .int .i64 x.r.a, .int .i64 x.r.b] 58)
                have Akd := Ak.kept (Below.refl _ _).drew
                have bqd := bqk.kept (Below.refl _ _).drew
                have hBs := hBk.size
                obtain ⟨v2, W2, rA, c1, hfr, c3, bq2, hv2, hKr, hAr2⟩ := Akd.push (show C ≤ wr.drew.heap.size from Nat.le_trans hCW hBs) x (by omega) (by omega) z4 y4 (by omega) (by omega) bqd
                have HSb : Hid ((fun Z : World => Z.cell? ⟨yb, 0, none⟩ = some (ptr r) ∧ Z.cell? ⟨r, 0, none⟩ = some (.slice av pre.length cap1) ∧ Z.cell? ⟨q, 0, none⟩ = some (.int .i64 x.r.x) ∧ Z.cell? ⟨q, 1, none⟩ = some (.int .i64 x.r.y) ∧ Z.cell? ⟨q, 2, none⟩ = some (.int .i64 x.r.a) ∧ Z.cell? ⟨q, 3, none⟩ = some (.int .i64 x.r.b)) (wr.drew.alloc (.cells #[.int .i64 x.id, .int .i64 x.r.x, .int .i64 x.r.y, .int .i64 x.r.a, .int .i64 x.r.b] 58))) := hide (by
                  have A9 := Akd.kept Bb
                  have q9 := (bqd.kept Bb).cells
                  exact ⟨A9.yx.cell, A9.rx.c, q9.1, q9.2.1, q9.2.2.1, q9.2.2.2⟩)
                have HSc : Hid ((fun Z : World => Z.cell? ⟨yb, 0, none⟩ = some (ptr r) ∧ Z.cell? ⟨r, 0, none⟩ = some (.slice av pre.length cap1) ∧ Z.cell? ⟨q, 0, none⟩ = some (.int .i64 x.r.x) ∧ Z.cell? ⟨q, 1, none⟩ = some (.int .i64 x.r.y) ∧ Z.cell? ⟨q, 2, none⟩ = some (.int .i64 x.r.a) ∧ Z.cell? ⟨q, 3, none⟩ = some (.int .i64 x.r.b)) W2) := hide ⟨c3, c1, bq2.cells.1, bq2.cells.2.1, bq2.cells.2.2.1, bq2.cells.2.2.2⟩
                have HAp := hide rA
                have HEn := hide (show Kr X4.heap.size C W (W2.setCell ⟨r, 0, none⟩ v2) ∧ ∃ v', Ar w X4 (W2.setCell ⟨r, 0, none⟩ v2) r yb C v' (pre ++ [x]) from ⟨(Kr.of_below hBk.drew).trans hKr, _, hAr2⟩)
                clear rA c1 c3 bq2 hKr hAr2 Akd bqd Bb
                gi_wp2_with fail
                refine wpIn_only ?_
                refine wpIn_region_zR (fun Z : World => Z.cell? ⟨yb, 0, none⟩ = some (ptr r) ∧ Z.cell? ⟨r, 0, none⟩ = some (.slice av pre.length cap1) ∧ Z.cell? ⟨q, 0, none⟩ = some (.int .i64 x.r.x) ∧ Z.cell? ⟨q, 1, none⟩ = some (.int .i64 x.r.y) ∧ Z.cell? ⟨q, 2, none⟩ = some (.int .i64 x.r.a) ∧ Z.cell? ⟨q, 3, none⟩ = some (.int .i64 x.r.b)) 12 only_in (by kernel_rfl) (by kernel_rfl) ?_
                refine anyZ_take 0 8 (v := ptr r) rfl (by kernel_rfl) (fun _ _ _ h => h.elim) (Or.inl ⟨by rfl, fun wx hx => run_y (by rfl) (by rfl) hx.1⟩) hSR ?_
                try simp only [Act.put, List.getElem_toArray, List.getElem_cons_zero, List.getElem_cons_succ, List.setIfInBounds_toArray, List.set_cons_zero, List.set_cons_succ]
                refine anyZ_take 1 8 (v := ptr r) rfl (by kernel_rfl) (fun _ _ _ h => h.elim) (Or.inl ⟨by rfl, fun wx hx => run_y (by rfl) (by rfl) hx.1⟩) hSR ?_
                try simp only [Act.put, List.getElem_toArray, List.getElem_cons_zero, List.getElem_cons_succ, List.setIfInBounds_toArray, List.set_cons_zero, List.set_cons_succ]
                refine anyZ_take 2 8 (v := ptr r) rfl (by kernel_rfl) (fun _ _ _ h => h.elim) (Or.inl ⟨by rfl, fun wx hx => run_nc (by rfl) (by rfl)⟩) hSR ?_
                try simp only [Act.put, List.getElem_toArray, List.getElem_cons_zero, List.getElem_cons_succ, List.setIfInBounds_toArray, List.set_cons_zero, List.set_cons_succ]
                refine anyZ_take 3 8 (v := ptr r) rfl (by kernel_rfl) (fun _ _ _ h => h.elim) (Or.inl ⟨by rfl, fun wx hx => run_l (by rfl) (by rfl)⟩) hSR ?_
                try simp only [Act.put, List.getElem_toArray, List.getElem_cons_zero, List.getElem_cons_succ, List.setIfInBounds_toArray, List.set_cons_zero, List.set_cons_succ]
                refine anyZ_take 4 8 (v := .slice av pre.length cap1) rfl (by kernel_rfl) (fun _ _ _ h => h.elim) (Or.inl ⟨by rfl, fun wx hx => run_load (by rfl) (by rfl) hx.2.1⟩) hSR ?_
                try simp only [Act.put, List.getElem_toArray, List.getElem_cons_zero, List.getElem_cons_succ, List.setIfInBounds_toArray, List.set_cons_zero, List.set_cons_succ]
                refine anyZ_take 5 8 (v := .int .i64 x.id) rfl (by kernel_rfl) (fun _ _ _ h => h.elim) (Or.inl ⟨by rfl, fun wx hx => run_mv (by rfl) (by rfl)⟩) hSR ?_
                try simp only [Act.put, List.getElem_toArray, List.getElem_cons_zero, List.getElem_cons_succ, List.setIfInBounds_toArray, List.set_cons_zero, List.set_cons_succ]
                refine anyZ_take 6 8 (v := rct x.r.x x.r.y x.r.a x.r.b) rfl (by kernel_rfl) (fun _ _ _ h => h.elim) (Or.inl ⟨by rfl, fun wx hx => run_rO (by rfl) (by rfl) hx.2.2.1 hx.2.2.2.1 hx.2.2.2.2.1 hx.2.2.2.2.2⟩) hSR ?_
                try simp only [Act.put, List.getElem_toArray, List.getElem_cons_zero, List.getElem_cons_succ, List.setIfInBounds_toArray, List.set_cons_zero, List.set_cons_succ]
                refine anyZ_take 7 8 (v := .agg #[.int .i64 x.id, .int .i64 x.r.x, .int .i64 x.r.y, .int .i64 x.r.a, .int .i64 x.r.b]) rfl (by kernel_rfl) (fun _ _ _ h => h.elim) (Or.inl ⟨by rfl, fun wx hx => run_unit (by rfl) (by rfl) (by rfl)⟩) hSR ?_
                try simp only [Act.put, List.getElem_toArray, List.getElem_cons_zero, List.getElem_cons_succ, List.setIfInBounds_toArray, List.set_cons_zero, List.set_cons_succ]
                refine anyZ_ready (rs := [8]) (by kernel_rfl) (by simp) ?_
                refine readyZ.cons rfl rfl (run_single (by rfl) (by rfl)) (fun _ => HSb.out) ?_ readyZ.nil
                try simp only [Act.put, List.getElem_toArray, List.getElem_cons_zero, List.getElem_cons_succ, List.setIfInBounds_toArray, List.set_cons_zero, List.set_cons_succ]
                refine anyZ_ready (rs := [9]) (by kernel_rfl) (by simp) ?_
                refine readyZ.cons rfl rfl (run_append (by rfl) (by rfl) (by rfl) HAp.out) (fun _ => HSc.out) ?_ readyZ.nil
                try simp only [Act.put, List.getElem_toArray, List.getElem_cons_zero, List.getElem_cons_succ, List.setIfInBounds_toArray, List.set_cons_zero, List.set_cons_succ]
                refine anyZ_take 10 8 (v := ptr r) rfl (by kernel_rfl) (fun _ _ _ h => h.elim) (Or.inl ⟨by rfl, fun wx hx => run_nc (by rfl) (by rfl)⟩) HSc.out ?_
                try simp only [Act.put, List.getElem_toArray, List.getElem_cons_zero, List.getElem_cons_succ, List.setIfInBounds_toArray, List.set_cons_zero, List.set_cons_succ]
                refine anyZ_take 11 8 (v := ptr r) rfl (by kernel_rfl) (fun _ _ _ h => h.elim) (Or.inl ⟨by rfl, fun wx hx => run_l (by rfl) (by rfl)⟩) HSc.out ?_
                try simp only [Act.put, List.getElem_toArray, List.getElem_cons_zero, List.getElem_cons_succ, List.setIfInBounds_toArray, List.set_cons_zero, List.set_cons_succ]
                refine anyZ_ready (rs := [12]) (by kernel_rfl) (by simp) ?_
                refine readyZ.skip rfl rfl (run_store (by rfl) (by rfl) (by rfl) hv2 HSc.out.2.1 hfr) (fun h => absurd rfl h) ?_ readyZ.nil
                try simp only [Act.put, List.getElem_toArray, List.getElem_cons_zero, List.getElem_cons_succ, List.setIfInBounds_toArray, List.set_cons_zero, List.set_cons_succ]
                refine anyZ_done (by kernel_rfl) ?_ _
                dsimp only [Only]
                exact HEn.out
          case done =>
            rintro D C W hD ⟨v', hAr⟩ hK
            have A5 := A4.range hAr hD hK
            gi_wp2_with fail
            exact ⟨⟨i + 1, _, v', _, D :: Ds, A5, by omega, by omega, by omega, mkU _ _ _ rfl⟩, by simp [intOf]; omega⟩
        · have hcb : (c == 0) = false := by simpa using hc0
          have hcd : decide (c = 0) = false := by simpa using hc0
          have hll := hz hc0
          subst hll
          have cY := A1.yx.cell
          clear hz hA
          gi_wp2_with fail
          refine ⟨trivial, ?_⟩
          refine (callsIn_wide.2 (same_yes _ _ _ _ _ _ _ _ A1.st A1.rx)).mono ?_
          rintro e X2 ⟨rfl, hb2⟩
          have A2 := A1.kept hb2
          have cY2 := A2.yx.cell
          have cR := A2.rx.c
          have fR := Boxed.frozen A2.rx.blk
          have HA2 := hide A2.clear
          clear A1 A2 cY hb2
          gi_wp2_with fail
          obtain ⟨Y, hY⟩ : ∃ Y, X2.setCell ⟨r, 0, none⟩ (.slice none 0 0) = Y := ⟨_, rfl⟩
          rw [hY] at HA2 ⊢
          clear hY cR fR
          refine ⟨trivial, ?_⟩
          refine (callsIn_wide.2 (all_is _ _)).mono ?_
          rintro e X4 ⟨rfl, hX4⟩
          have A4 := HA2.out.kept (show Below Y.heap.size Y X4 from hX4 ▸ box1 _ _)
          have m3 : Boxed X4 Y.heap.size 24 (ptr (fm + 1 + 1)) := by rw [hX4]; exact Boxed.new _ _ _
          have hF := A4.st.fine
          have z4 := A4.yx.lt
          have y4 := A4.bx.lt
          obtain ⟨cb, hcb⟩ : ∃ cb, Y.heap.size = cb := ⟨_, rfl⟩
          rw [hcb] at m3 ⊢
          clear hX4 HA2 hcb
          gi_wp2_with fail
          refine range_all (by omega) (c := cb) (p := fm + 1 + 1) rfl m3 A4.st rfl (fun C pre W => ∃ v', Ar w X4 W r yb C v' pre) ?hI ?h0
            (fun x a' W => ∃ q, X4.heap.size + 2 ≤ q ∧ Bq W q x.r ∧ ∃ u : Nat → Value, a' = { tmps := #[.slice (some ⟨g, o, none⟩) K.length c0, undef, ptr w.heap.size, ptr (fm + 1 + 1), ptr yb, .int .i64 (i : Nat), u 6, .int .i64 x.id, ptr q, u 9, .bool true, .bool false, ptr (fm + 1 + 1), .agg #[.slice none 0 0], ptr r, u 15, u 16, u 17, u 18, u 19, u 20, u 21, u 22, u 23, u 24, u 25, u 26, u 27, u 28, u 29, u 30, u 31, u 32, u 33, u 34, u 35, u 36, u 37, u 38, u 39, u 40, u 41, u 42, u 43, u 44, u 45, u 46, u 47, u 48, u 49, u 50, u 51, u 52, u 53, u 54, u 55, u 56, u 57, u 58, u 59, u 60, u 61, u 62, u 63, u 64, u 65, u 66, u 67, u 68, u 69, u 70, u 71, u 72, u 73, u 74, u 75, u 76, u 77, u 78, u 79, .int .i64 x.id, x.r.v, u 82, u 83, u 84, u 85, u 86, u 87, u 88, u 89, u 90, u 91, u 92, u 93, u 94, u 95, u 96, u 97, u 98, u 99, u 100, u 101, u 102, u 103, u 104, u 105, u 106, u 107, u 108, u 109, u 110, u 111, u 112, u 113, u 114, u 115, u 116, undef], defers := [] }) ?hAx ?assign ?body ?done
          case hI =>
            rintro C pre V1 V2 ⟨v', hAr⟩ tt
            exact ⟨v', hAr.inner (by omega) z4 y4 tt⟩
          case h0 =>
            intro W hzW hbW
            have A5 := A4.kept hbW
            exact ⟨_, ⟨A5.rx, fun k e => by simp [Value.ownBlock] at e, A5.bx, A5.yx, Turns.of_below hbW, by omega⟩⟩
          case hAx =>
            rintro x a' V1 V2 ⟨q, hq1, hq2, hq3⟩ tt
            exact ⟨q, hq1, tt.same (by omega) hq2, hq3⟩
          case assign =>
            rintro lo C pre x W K1 ⟨v', hAr⟩ hpre hCW hVC hK1
            gi_wp2
            have hb1 := box1 W (.cells #[.int .i64 x.r.x, .int .i64 x.r.y, .int .i64 x.r.a, .int .i64 x.r.b] 34)
            refine hK1 _ _ (Kr.of_below hb1) ⟨v', hAr.kept hb1⟩ ⟨W.heap.size, by omega, heap_alloc_new W _, ?_⟩
            exact mkU _ _ _ rfl
          case body =>
            rintro lo C pre x a' W hlo ⟨v', hAr⟩ ⟨q, hq, bq, u, rfl⟩ hpre hCW hVC
            dsimp only
            have hxm : x ∈ _ := hpre.subset (List.mem_append_right _ (List.mem_singleton_self x))
            have hpl : pre.length ≤ 256 := by have h1 := hpre.length_le; have h2 := hF.len; simp at h1; omega
            obtain ⟨av, cap1, rfl, hcp, hcm, hat⟩ := hAr.rx.us.form
            gi_wp2_with fail
            gi_loopw [9] (fun d wr => ∃ k : Nat, k ≤ pre.length ∧ d = .int .i64 k ∧ Below W.heap.size W wr) (fun d _ => pre.length - (intOf d).toNat)
            case atStart => exact ⟨0, Nat.zero_le _, rfl, Below.refl _ _⟩
            case round =>
              obtain ⟨k, hk, rfl, hBk⟩ := hrel
              have Ak := hAr.kept hBk
              have bqk := bq.kept hBk
              have cY := Ak.yx.cell
              have cR := Ak.rx.c
              have hkI : (0 : Int) ≤ (k : Nat) ∧ (pre.length : Int) ≤ 256 := by omega
              by_cases hkl : k < pre.length
              · obtain ⟨s, hs⟩ : ∃ s, pre[k]? = some s := ⟨_, List.getElem?_eq_getElem hkl⟩
                have hsm : s ∈ _ := hpre.subset (List.mem_append_left _ (List.mem_of_getElem? hs))
                have hki : (k : Int) < (pre.length : Nat) := by omega
                have hk1 : k ≤ 1000 := by omega
                obtain ⟨g1, rfl, -, -, -, -, -, -⟩ := hat k s hs
                have hSR : (fun Z : World => Z.cell? ⟨yb, 0, none⟩ = some (ptr r) ∧ Z.cell? ⟨r, 0, none⟩ = some (.slice (some ⟨g1, 0, none⟩) pre.length cap1) ∧ Z.cell? ⟨q, 0, none⟩ = some (.int .i64 x.r.x) ∧ Z.cell? ⟨q, 1, none⟩ = some (.int .i64 x.r.y) ∧ Z.cell? ⟨q, 2, none⟩ = some (.int .i64 x.r.a) ∧ Z.cell? ⟨q, 3, none⟩ = some (.int .i64 x.r.b)) wr.drew := ⟨cY, cR, bqk.cells.1, bqk.cells.2.1, bqk.cells.2.2.1, bqk.cells.2.2.2⟩
                have Bb : Hid (Below wr.heap.size wr (wr.drew.alloc (.cells #[.slice (some ⟨g1, k * 5, none⟩) 1 (cap1 - k)] 29))) := hide (bt (Below.refl _ _).drew (box1 wr.drew _))
                have HSb : Hid ((fun Z : World => Z.cell? ⟨yb, 0, none⟩ = some (ptr r) ∧ Z.cell? ⟨r, 0, none⟩ = some (.slice (some ⟨g1, 0, none⟩) pre.length cap1) ∧ Z.cell? ⟨q, 0, none⟩ = some (.int .i64 x.r.x) ∧ Z.cell? ⟨q, 1, none⟩ = some (.int .i64 x.r.y) ∧ Z.cell? ⟨q, 2, none⟩ = some (.int .i64 x.r.a) ∧ Z.cell? ⟨q, 3, none⟩ = some (.int .i64 x.r.b)) (wr.drew.alloc (.cells #[.slice (some ⟨g1, k * 5, none⟩) 1 (cap1 - k)] 29))) := hide (by
                  have A9 := Ak.kept Bb.out
                  have q9 := (bqk.kept Bb.out).cells
                  exact ⟨A9.yx.cell, A9.rx.c, q9.1, q9.2.1, q9.2.2.1, q9.2.2.2⟩)
                have hRx := Us.one (Ak.kept Bb.out).rx.us hs rfl (r := wr.drew.heap.size) (c := cap1 - k) (by omega) (cell_of_row _ _ 0 _ _ _ (heap_alloc_new wr.drew _))
                have HFr := hide (refree_any wr.drew.heap.size (some ⟨g1, k * 5, none⟩) (cap1 - k) [s] x.id x.r.x x.r.y x.r.a x.r.b _ hRx)
                rw [hF.free hsm hxm] at HFr
                clear hRx
                gi_wp2_with fail
                refine wpIn_only ?_
                refine wpIn_region_zR (fun Z : World => Z.cell? ⟨yb, 0, none⟩ = some (ptr r) ∧ Z.cell? ⟨r, 0, none⟩ = some (.slice (some ⟨g1, 0, none⟩) pre.length cap1) ∧ Z.cell? ⟨q, 0, none⟩ = some (.int .i64 x.r.x) ∧ Z.cell? ⟨q, 1, none⟩ = some (.int .i64 x.r.y) ∧ Z.cell? ⟨q, 2, none⟩ = some (.int .i64 x.r.a) ∧ Z.cell? ⟨q, 3, none⟩ = some (.int .i64 x.r.b)) 13 only_in (by kernel_rfl) (by kernel_rfl) ?_
                refine anyZ_take 0 8 (v := ptr r) rfl (by kernel_rfl) (fun _ _ _ h => h.elim) (Or.inl ⟨by rfl, fun wx hx => run_y (by rfl) (by rfl) hx.1⟩) hSR ?_
                try simp only [Act.put, List.getElem_toArray, List.getElem_cons_zero, List.getElem_cons_succ, List.setIfInBounds_toArray, List.set_cons_zero, List.set_cons_succ]
                refine anyZ_take 1 8 (v := ptr r) rfl (by kernel_rfl) (fun _ _ _ h => h.elim) (Or.inl ⟨by rfl, fun wx hx => run_nc (by rfl) (by rfl)⟩) hSR ?_
                try simp only [Act.put, List.getElem_toArray, List.getElem_cons_zero, List.getElem_cons_succ, List.setIfInBounds_toArray, List.set_cons_zero, List.set_cons_succ]
                refine anyZ_take 2 8 (v := ptr r) rfl (by kernel_rfl) (fun _ _ _ h => h.elim) (Or.inl ⟨by rfl, fun wx hx => run_l (by rfl) (by rfl)⟩) hSR ?_
                try simp only [Act.put, List.getElem_toArray, List.getElem_cons_zero, List.getElem_cons_succ, List.setIfInBounds_toArray, List.set_cons_zero, List.set_cons_succ]
                refine anyZ_take 3 8 (v := .slice (some ⟨g1, 0, none⟩) pre.length cap1) rfl (by kernel_rfl) (fun _ _ _ h => h.elim) (Or.inl ⟨by rfl, fun wx hx => run_load (by rfl) (by rfl) hx.2.1⟩) hSR ?_
                try simp only [Act.put, List.getElem_toArray, List.getElem_cons_zero, List.getElem_cons_succ, List.setIfInBounds_toArray, List.set_cons_zero, List.set_cons_succ]
                refine anyZ_take 4 8 (v := .int .i64 (k : Nat)) rfl (by kernel_rfl) (fun _ _ _ h => h.elim) (Or.inl ⟨by rfl, fun wx hx => run_mv (by rfl) (by rfl)⟩) hSR ?_
                try simp only [Act.put, List.getElem_toArray, List.getElem_cons_zero, List.getElem_cons_succ, List.setIfInBounds_toArray, List.set_cons_zero, List.set_cons_succ]
                refine anyZ_take 5 8 (v := .int .i64 (k : Nat)) rfl (by kernel_rfl) (fun _ _ _ h => h.elim) (Or.inl ⟨by rfl, fun wx hx => run_mv (by rfl) (by rfl)⟩) hSR ?_
                try simp only [Act.put, List.getElem_toArray, List.getElem_cons_zero, List.getElem_cons_succ, List.setIfInBounds_toArray, List.set_cons_zero, List.set_cons_succ]
                refine anyZ_take 6 8 (v := .int .i64 ((k : Int) + 1)) rfl (by kernel_rfl) (fun _ _ _ h => h.elim) (Or.inl ⟨by rfl, fun wx hx => run_next (by rfl) (by rfl) (by rfl) hk1⟩) hSR ?_
                try simp only [Act.put, List.getElem_toArray, List.getElem_cons_zero, List.getElem_cons_succ, List.setIfInBounds_toArray, List.set_cons_zero, List.set_cons_succ]
                refine anyZ_take 7 8 (v := .slice (some ⟨g1, k * 5, none⟩) 1 (cap1 - k)) rfl (by kernel_rfl) (fun _ _ _ h => h.elim) (Or.inl ⟨by rfl, fun wx hx => run_part (by rfl) (by rfl) (by rfl) (by rfl) hkl hcp hcm⟩) hSR ?_
                try simp only [Act.put, List.getElem_toArray, List.getElem_cons_zero, List.getElem_cons_succ, List.setIfInBounds_toArray, List.set_cons_zero, List.set_cons_succ]
                refine anyZ_take 8 8 (v := .agg #[.slice (some ⟨g1, k * 5, none⟩) 1 (cap1 - k)]) rfl (by kernel_rfl) (fun _ _ _ h => h.elim) (Or.inl ⟨by rfl, fun wx hx => run_ix (by rfl) (by rfl)⟩) hSR ?_
                try simp only [Act.put, List.getElem_toArray, List.getElem_cons_zero, List.getElem_cons_succ, List.setIfInBounds_toArray, List.set_cons_zero, List.set_cons_succ]
                refine anyZ_take 10 8 (v := rct x.r.x x.r.y x.r.a x.r.b) rfl (by kernel_rfl) (fun _ _ _ h => h.elim) (Or.inl ⟨by rfl, fun wx hx => run_rO (by rfl) (by rfl) hx.2.2.1 hx.2.2.2.1 hx.2.2.2.2.1 hx.2.2.2.2.2⟩) hSR ?_
                try simp only [Act.put, List.getElem_toArray, List.getElem_cons_zero, List.getElem_cons_succ, List.setIfInBounds_toArray, List.set_cons_zero, List.set_cons_succ]
                refine anyZ_take 11 8 (v := .int .i64 x.id) rfl (by kernel_rfl) (fun _ _ _ h => h.elim) (Or.inl ⟨by rfl, fun wx hx => run_mv (by rfl) (by rfl)⟩) hSR ?_
                try simp only [Act.put, List.getElem_toArray, List.getElem_cons_zero, List.getElem_cons_succ, List.setIfInBounds_toArray, List.set_cons_zero, List.set_cons_succ]
                refine anyZ_ready (rs := [9]) (by kernel_rfl) (by simp) ?_
                refine readyZ.cons rfl rfl (run_bx (by rfl) (by rfl)) (fun _ => HSb.out) ?_ readyZ.nil
                try simp only [Act.put, List.getElem_toArray, List.getElem_cons_zero, List.getElem_cons_succ, List.setIfInBounds_toArray, List.set_cons_zero, List.set_cons_succ]
                refine anyZ_ready (rs := [12]) (by kernel_rfl) (by simp) ?_
                refine readyZ.call rfl rfl (run_call21 (by rfl) (by rfl) (by simp only [List.map_toArray, List.map_cons, List.map_nil]; rfl)) HFr.out ?_ readyZ.nil
                rintro e W4 ⟨rfl, hb4⟩
                have Ak4 := Ak.kept (bt Bb.out hb4)
                have bq4 := (bqk.kept Bb.out).kept hb4
                refine ⟨_, rfl, fun _ => ⟨Ak4.yx.cell, Ak4.rx.c, bq4.cells.1, bq4.cells.2.1, bq4.cells.2.2.1, bq4.cells.2.2.2⟩, ?_⟩
                try simp only [Act.put, List.getElem_toArray, List.getElem_cons_zero, List.getElem_cons_succ, List.setIfInBounds_toArray, List.set_cons_zero, List.set_cons_succ]
                refine anyZ_ready (rs := [13]) (by kernel_rfl) (by simp) ?_
                refine readyZ.cons rfl rfl (run_not (b := true) (by rfl) (by rfl)) (fun h => absurd rfl h) ?_ readyZ.nil
                try simp only [Act.put, List.getElem_toArray, List.getElem_cons_zero, List.getElem_cons_succ, List.setIfInBounds_toArray, List.set_cons_zero, List.set_cons_succ]
                refine anyZ_done (by kernel_rfl) ?_ _
                dsimp only [Only, Bool.not_true]
                have HB4 := hide (bt hBk (bt Bb.out hb4))
                clear Ak4 bq4 hb4 HSb HFr hSR Bb
                gi_wp2_with fail
                go_roundw
                case rel => exact ⟨k + 1, by omega, by go_num, HB4.out⟩
                case measure => simp [intOf]; omega
              · obtain rfl : k = pre.length := by omega
                have hki : ¬ ((pre.length : Nat) : Int) < (pre.length : Nat) := by omega
                have hSR : (fun Z : World => Z.cell? ⟨yb, 0, none⟩ = some (ptr r) ∧ Z.cell? ⟨r, 0, none⟩ = some (.slice av pre.length cap1) ∧ Z.cell? ⟨q, 0, none⟩ = some (.int .i64 x.r.x) ∧ Z.cell? ⟨q, 1, none⟩ = some (.int .i64 x.r.y) ∧ Z.cell? ⟨q, 2, none⟩ = some (.int .i64 x.r.a) ∧ Z.cell? ⟨q, 3, none⟩ = some (.int .i64 x.r.b)) wr.drew := ⟨cY, cR, bqk.cells.1, bqk.cells.2.1, bqk.cells.2.2.1, bqk.cells.2.2.2⟩
                have Bb := box1 wr.drew (.cells #[.int .i64 x.id, .int .i64 x.r.x, .int .i64 x.r.y, .int .i64 x.r.a, .int .i64 x.r.b] 58)
                have Akd := Ak.kept (Below.refl _ _).drew
                have bqd := bqk.kept (Below.refl _ _).drew
                have hBs := hBk.size
                obtain ⟨v2, W2, rA, c1, hfr, c3, bq2, hv2, hKr, hAr2⟩ := Akd.push (show C ≤ wr.drew.heap.size from Nat.le_trans hCW hBs) x (by omega) (by omega) z4 y4 (by omega) (by omega) bqd
                have HSb : Hid ((fun Z : World => Z.cell? ⟨yb, 0, none⟩ = some (ptr r) ∧ Z.cell? ⟨r, 0, none⟩ = some (.slice av pre.length cap1) ∧ Z.cell? ⟨q, 0, none⟩ = some (.int .i64 x.r.x) ∧ Z.cell? ⟨q, 1, none⟩ = some (.int .i64 x.r.y) ∧ Z.cell? ⟨q, 2, none⟩ = some (.int .i64 x.r.a) ∧ Z.cell? ⟨q, 3, none⟩ = some (.int .i64 x.r.b)) (wr.drew.alloc (.cells #[.int .i64 x.id, .int .i64 x.r.x, .int .i64 x.r.y, .int .i64 x.r.a, .int .i64 x.r.b] 58))) := hide (by
                  have A9 := Akd.kept Bb
                  have q9 := (bqd.kept Bb).cells
                  exact ⟨A9.yx.cell, A9.rx.c, q9.1, q9.2.1, q9.2.2.1, q9.2.2.2⟩)
                have HSc : Hid ((fun Z : World => Z.cell? ⟨yb, 0, none⟩ = some (ptr r) ∧ Z.cell? ⟨r, 0, none⟩ = some (.slice av pre.length cap1) ∧ Z.cell? ⟨q, 0, none⟩ = some (.int .i64 x.r.x) ∧ Z.cell? ⟨q, 1, none⟩ = some (.int .i64 x.r.y) ∧ Z.cell? ⟨q, 2, none⟩ = some (.int .i64 x.r.a) ∧ Z.cell? ⟨q, 3, none⟩ = some (.int .i64 x.r.b)) W2) := hide ⟨c3, c1, bq2.cells.1, bq2.cells.2.1, bq2.cells.2.2.1, bq2.cells.2.2.2⟩
                have HAp := hide rA
                have HEn := hide (show Kr X4.heap.size C W (W2.setCell ⟨r, 0, none⟩ v2) ∧ ∃ v', Ar w X4 (W2.setCell ⟨r, 0, none⟩ v2) r yb C v' (pre ++ [x]) from ⟨(Kr.of_below hBk.drew).trans hKr, _, hAr2⟩)
                clear rA c1 c3 bq2 hKr hAr2 Akd bqd Bb
                gi_wp2_with fail
                refine wpIn_only ?_
                refine wpIn_region_zR (fun Z : World => Z.cell? ⟨yb, 0, none⟩ = some (ptr r) ∧ Z.cell? ⟨r, 0, none⟩ = some (.slice av pre.length cap1) ∧ Z.cell? ⟨q, 0, none⟩ = some (.int .i64 x.r.x) ∧ Z.cell? ⟨q, 1, none⟩ = some (.int .i64 x.r.y) ∧ Z.cell? ⟨q, 2, none⟩ = some (.int .i64 x.r.a) ∧ Z.cell? ⟨q, 3, none⟩ = some (.int .i64 x.r.b)) 12 only_in (by kernel_rfl) (by kernel_rfl) ?_
                refine anyZ_take 0 8 (v := ptr r) rfl (by kernel_rfl) (fun _ _ _ h => h.elim) (Or.inl ⟨by rfl, fun wx hx => run_y (by rfl) (by rfl) hx.1⟩) hSR ?_
                try simp only [Act.put, List.getElem_toArray, List.getElem_cons_zero, List.getElem_cons_succ, List.setIfInBounds_toArray, List.set_cons_zero, List.set_cons_succ]
                refine anyZ_take 1 8 (v := ptr r) rfl (by kernel_rfl) (fun _ _ _ h => h.elim) (Or.inl ⟨by rfl, fun wx hx => run_y (by rfl) (by rfl) hx.1⟩) hSR ?_
                try simp only [Act.put, List.getElem_toArray, List.getElem_cons_zero, List.getElem_cons_succ, List.setIfInBounds_toArray, List.set_cons_zero, List.set_cons_succ]
                refine anyZ_take 2 8 (v := ptr r) rfl (by kernel_rfl) (fun _ _ _ h => h.elim) (Or.inl ⟨by rfl, fun wx hx => run_nc (by rfl) (by rfl)⟩) hSR ?_
                try simp only [Act.put, List.getElem_toArray, List.getElem_cons_zero, List.getElem_cons_succ, List.setIfInBounds_toArray, List.set_cons_zero, List.set_cons_succ]
                refine anyZ_take 3 8 (v := ptr r) rfl (by kernel_rfl) (fun _ _ _ h => h.elim) (Or.inl ⟨by rfl, fun wx hx => run_l (by rfl) (by rfl)⟩) hSR ?_
                try simp only [Act.put, List.getElem_toArray, List.getElem_cons_zero, List.getElem_cons_succ, List.setIfInBounds_toArray, List.set_cons_zero, List.set_cons_succ]
                refine anyZ_take 4 8 (v := .slice av pre.length cap1) rfl (by kernel_rfl) (fun _ _ _ h => h.elim) (Or.inl ⟨by rfl, fun wx hx => run_load (by rfl) (by rfl) hx.2.1⟩) hSR ?_
                try simp only [Act.put, List.getElem_toArray, List.getElem_cons_zero, List.getElem_cons_succ, List.setIfInBounds_toArray, List.set_cons_zero, List.set_cons_succ]
                refine anyZ_take 5 8 (v := .int .i64 x.id) rfl (by kernel_rfl) (fun _ _ _ h => h.elim) (Or.inl ⟨by rfl, fun wx hx => run_mv (by rfl) (by rfl)⟩) hSR ?_
                try simp only [Act.put, List.getElem_toArray, List.getElem_cons_zero, List.getElem_cons_succ, List.setIfInBounds_toArray, List.set_cons_zero, List.set_cons_succ]
                refine anyZ_take 6 8 (v := rct x.r.x x.r.y x.r.a x.r.b) rfl (by kernel_rfl) (fun _ _ _ h => h.elim) (Or.inl ⟨by rfl, fun wx hx => run_rO (by rfl) (by rfl) hx.2.2.1 hx.2.2.2.1 hx.2.2.2.2.1 hx.2.2.2.2.2⟩) hSR ?_
                try simp only [Act.put, List.getElem_toArray, List.getElem_cons_zero, List.getElem_cons_succ, List.setIfInBounds_toArray, List.set_cons_zero, List.set_cons_succ]
                refine anyZ_take 7 8 (v := .agg #[.int .i64 x.id, .int .i64 x.r.x, .int .i64 x.r.y, .int .i64 x.r.a, .int .i64 x.r.b]) rfl (by kernel_rfl) (fun _ _ _ h => h.elim) (Or.inl ⟨by rfl, fun wx hx => run_unit (by rfl) (by rfl) (by rfl)⟩) hSR ?_
                try simp only [Act.put, List.getElem_toArray, List.getElem_cons_zero, List.getElem_cons_succ, List.setIfInBounds_toArray, List.set_cons_zero, List.set_cons_succ]
                refine anyZ_ready (rs := [8]) (by kernel_rfl) (by simp) ?_
                refine readyZ.cons rfl rfl (run_single (by rfl) (by rfl)) (fun _ => HSb.out) ?_ readyZ.nil
                try simp only [Act.put, List.getElem_toArray, List.getElem_cons_zero, List.getElem_cons_succ, List.setIfInBounds_toArray, List.set_cons_zero, List.set_cons_succ]
                refine anyZ_ready (rs := [9]) (by kernel_rfl) (by simp) ?_
                refine readyZ.cons rfl rfl (run_append (by rfl) (by rfl) (by rfl) HAp.out) (fun _ => HSc.out) ?_ readyZ.nil
                try simp only [Act.put, List.getElem_toArray, List.getElem_cons_zero, List.getElem_cons_succ, List.setIfInBounds_toArray, List.set_cons_zero, List.set_cons_succ]
                refine anyZ_take 10 8 (v := ptr r) rfl (by kernel_rfl) (fun _ _ _ h => h.elim) (Or.inl ⟨by rfl, fun wx hx => run_nc (by rfl) (by rfl)⟩) HSc.out ?_
                try simp only [Act.put, List.getElem_toArray, List.getElem_cons_zero, List.getElem_cons_succ, List.setIfInBounds_toArray, List.set_cons_zero, List.set_cons_succ]
                refine anyZ_take 11 8 (v := ptr r) rfl (by kernel_rfl) (fun _ _ _ h => h.elim) (Or.inl ⟨by rfl, fun wx hx => run_l (by rfl) (by rfl)⟩) HSc.out ?_
                try simp only [Act.put, List.getElem_toArray, List.getElem_cons_zero, List.getElem_cons_succ, List.setIfInBounds_toArray, List.set_cons_zero, List.set_cons_succ]
                refine anyZ_ready (rs := [12]) (by kernel_rfl) (by simp) ?_
                refine readyZ.skip rfl rfl (run_store (by rfl) (by rfl) (by rfl) hv2 HSc.out.2.1 hfr) (fun h => absurd rfl h) ?_ readyZ.nil
                try simp only [Act.put, List.getElem_toArray, List.getElem_cons_zero, List.getElem_cons_succ, List.setIfInBounds_toArray, List.set_cons_zero, List.set_cons_succ]
                refine anyZ_done (by kernel_rfl) ?_ _
                dsimp only [Only]
                exact HEn.out
          case done =>
            rintro D C W hD ⟨v', hAr⟩ hK
            have A5 := A4.range hAr hD hK
            gi_wp2_with fail
            exact ⟨⟨i + 1, _, v', _, D :: Ds, A5, by omega, by omega, by omega, mkU _ _ _ rfl⟩, by simp [intOf]; omega⟩
      · have e1 : decide (Int.tmod t.d 3 = 1) = false := by simpa using q1
        by_cases q2 : Int.tmod t.d 3 = 2
        · have e2 : decide (Int.tmod t.d 3 = 2) = true := by simpa using q2
          gi_wp2_with fail
          refine ⟨trivial, ?_⟩
          refine (callsIn_wide.2 (take_st hA.st hokt.2.1)).mono ?_
          rintro e X1 ⟨rfl, s1, t1⟩
          have hm1 : m ≤ m + 16 := by omega
          have A1 := hA.act s1 t1
          obtain ⟨l1, hl1⟩ : ∃ l1, del l t.i = l1 := ⟨_, rfl⟩
          have hz : takeC l t.i ≠ 0 → l1 = l := fun h => hl1 ▸ take_zero h
          obtain ⟨c, hc⟩ : ∃ c, takeC l t.i = c := ⟨_, rfl⟩
          rw [hl1] at A1
          rw [hc] at hz ⊢
          clear hl1 hc s1 t1 d0 d1 d2 d3 d4 d5 hSA
          by_cases hc0 : c = 0
          · subst hc0
            have cY := A1.yx.cell
            have cR := A1.rx.c
            have fR := Boxed.frozen A1.rx.blk
            have HA2 := hide A1.clear
            clear A1 hz hA
            gi_wp2_with fail
            refine ⟨trivial, ?_⟩
            gi_wp2_with fail
            obtain ⟨Y, hY⟩ : ∃ Y, X1.setCell ⟨r, 0, none⟩ (.slice none 0 0) = Y := ⟨_, rfl⟩
            rw [hY] at HA2 ⊢
            clear hY cR fR
            refine ⟨trivial, ?_⟩
            refine (callsIn_wide.2 (all_is _ _)).mono ?_
            rintro e X4 ⟨rfl, hX4⟩
            have A4 := HA2.out.kept (show Below Y.heap.size Y X4 from hX4 ▸ box1 _ _)
            have m3 : Boxed X4 Y.heap.size 24 (ptr (fm + 1 + 1)) := by rw [hX4]; exact Boxed.new _ _ _
            have hF := A4.st.fine
            have z4 := A4.yx.lt
            have y4 := A4.bx.lt
            obtain ⟨cb, hcb⟩ : ∃ cb, Y.heap.size = cb := ⟨_, rfl⟩
            rw [hcb] at m3 ⊢
            clear hX4 HA2 hcb
            gi_wp2_with fail
            refine range_all (by omega) (c := cb) (p := fm + 1 + 1) rfl m3 A4.st rfl (fun C pre W => ∃ v', Ar w X4 W r yb C v' pre) ?hI ?h0
              (fun x a' W => ∃ q, X4.heap.size + 2 ≤ q ∧ Bq W q x.r ∧ ∃ u : Nat → Value, a' = { tmps := #[.slice (some ⟨g, o, none⟩) K.length c0, undef, ptr w.heap.size, ptr (fm + 1 + 1), ptr yb, .int .i64 (i : Nat), u 6, .int .i64 x.id, ptr q, u 9, .bool true, .bool false, ptr (fm + 1 + 1), .agg #[.slice none 0 0], ptr r, u 15, u 16, u 17, u 18, u 19, u 20, u 21, u 22, u 23, u 24, u 25, u 26, u 27, u 28, u 29, u 30, u 31, u 32, u 33, u 34, u 35, u 36, u 37, u 38, u 39, u 40, u 41, u 42, u 43, u 44, u 45, u 46, u 47, u 48, u 49, u 50, u 51, u 52, u 53, u 54, u 55, u 56, u 57, u 58, u 59, u 60, u 61, u 62, u 63, u 64, u 65, u 66, u 67, u 68, u 69, u 70, u 71, u 72, u 73, u 74, u 75, u 76, u 77, u 78, u 79, .int .i64 x.id, x.r.v, u 82, u 83, u 84, u 85, u 86, u 87, u 88, u 89, u 90, u 91, u 92, u 93, u 94, u 95, u 96, u 97, u 98, u 99, u 100, u 101, u 102, u 103, u 104, u 105, u 106, u 107, u 108, u 109, u 110, u 111, u 112, u 113, u 114, u 115, u 116, undef], defers := [] }) ?hAx ?assign ?body ?done
            case hI =>
              rintro C pre V1 V2 ⟨v', hAr⟩ tt
              exact ⟨v', hAr.inner (by omega) z4 y4 tt⟩
            case h0 =>
              intro W hzW hbW
              have A5 := A4.kept hbW
              exact ⟨_, ⟨A5.rx, fun k e => by simp [Value.ownBlock] at e, A5.bx, A5.yx, Turns.of_below hbW, by omega⟩⟩
            case hAx =>
              rintro x a' V1 V2 ⟨q, hq1, hq2, hq3⟩ tt
              exact ⟨q, hq1, tt.same (by omega) hq2, hq3⟩
            case assign =>
              rintro lo C pre x W K1 ⟨v', hAr⟩ hpre hCW hVC hK1
              gi_wp2
              have hb1 := box1 W (.cells #[.int .i64 x.r.x, .int .i64 x.r.y, .int .i64 x.r.a, .int .i64 x.r.b] 34)
              refine hK1 _ _ (Kr.of_below hb1) ⟨v', hAr.kept hb1⟩ ⟨W.heap.size, by omega, heap_alloc_new W _, ?_⟩
              exact mkU _ _ _ rfl
            case body =>
              rintro lo C pre x a' W hlo ⟨v', hAr⟩ ⟨q, hq, bq, u, rfl⟩ hpre hCW hVC
              dsimp only
              have hxm : x ∈ _ := hpre.subset (List.mem_append_right _ (List.mem_singleton_self x))
              have hpl : pre.length ≤ 256 := by have h1 := hpre.length_le; have h2 := hF.len; simp at h1; omega
              obtain ⟨av, cap1, rfl, hcp, hcm, hat⟩ := hAr.rx.us.form
              gi_wp2_with fail
              gi_loopw [9] (fun d wr => ∃ k : Nat, k ≤ pre.length ∧ d = .int .i64 k ∧ Below W.heap.size W wr) (fun d _ => pre.length - (intOf d).toNat)
              case atStart => exact ⟨0, Nat.zero_le _, rfl, Below.refl _ _⟩
              case round =>
                obtain ⟨k, hk, rfl, hBk⟩ := hrel
                have Ak := hAr.kept hBk
                have bqk := bq.kept hBk
                have cY := Ak.yx.cell
                have cR := Ak.rx.c
                have hkI : (0 : Int) ≤ (k : Nat) ∧ (pre.length : Int) ≤ 256 := by omega
                by_cases hkl : k < pre.length
                · obtain ⟨s, hs⟩ : ∃ s, pre[k]? = some s := ⟨_, List.getElem?_eq_getElem hkl⟩
                  have hsm : s ∈ _ := hpre.subset (List.mem_append_left _ (List.mem_of_getElem? hs))
                  have hki : (k : Int) < (pre.length : Nat) := by omega
                  have hk1 : k ≤ 1000 := by omega
                  obtain ⟨g1, rfl, -, -, -, -, -, -⟩ := hat k s hs
                  have hSR : (fun Z : World => Z.cell? ⟨yb, 0, none⟩ = some (ptr r) ∧ Z.cell? ⟨r, 0, none⟩ = some (.slice (some ⟨g1, 0, none⟩) pre.length cap1) ∧ Z.cell? ⟨q, 0, none⟩ = some (.int .i64 x.r.x) ∧ Z.cell? ⟨q, 1, none⟩ = some (.int .i64 x.r.y) ∧ Z.cell? ⟨q, 2, none⟩ = some (.int .i64 x.r.a) ∧ Z.cell? ⟨q, 3, none⟩ = some (.int .i64 x.r.b)) wr.drew := ⟨cY, cR, bqk.cells.1, bqk.cells.2.1, bqk.cells.2.2.1, bqk.cells.2.2.2⟩
                  have Bb : Hid (Below wr.heap.size wr (wr.drew.alloc (.cells #[.slice (some ⟨g1, k * 5, none⟩) 1 (cap1 - k)] 29))) := hide (bt (Below.refl _ _).drew (box1 wr.drew _))
                  have HSb : Hid ((fun Z : World => Z.cell? ⟨yb, 0, none⟩ = some (ptr r) ∧ Z.cell? ⟨r, 0, none⟩ = some (.slice (some ⟨g1, 0, none⟩) pre.length cap1) ∧ Z.cell? ⟨q, 0, none⟩ = some (.int .i64 x.r.x) ∧ Z.cell? ⟨q, 1, none⟩ = some (.int .i64 x.r.y) ∧ Z.cell? ⟨q, 2, none⟩ = some (.int .i64 x.r.a) ∧ Z.cell? ⟨q, 3, none⟩ = some (.int .i64 x.r.b)) (wr.drew.alloc (.cells #[.slice (some ⟨g1, k * 5, none⟩) 1 (cap1 - k)] 29))) := hide (by
                    have A9 := Ak.kept Bb.out
                    have q9 := (bqk.kept Bb.out).cells
                    exact ⟨A9.yx.cell, A9.rx.c, q9.1, q9.2.1, q9.2.2.1, q9.2.2.2⟩)
                  have hRx := Us.one (Ak.kept Bb.out).rx.us hs rfl (r := wr.drew.heap.size) (c := cap1 - k) (by omega) (cell_of_row _ _ 0 _ _ _ (heap_alloc_new wr.drew _))
                  have HFr := hide (refree_any wr.drew.heap.size (some ⟨g1, k * 5, none⟩) (cap1 - k) [s] x.id x.r.x x.r.y x.r.a x.r.b _ hRx)
                  rw [hF.free hsm hxm] at HFr
                  clear hRx
                  gi_wp2_with fail
                  refine wpIn_only ?_
                  refine wpIn_region_zR (fun Z : World => Z.cell? ⟨yb, 0, none⟩ = some (ptr r) ∧ Z.cell? ⟨r, 0, none⟩ = some (.slice (some ⟨g1, 0, none⟩) pre.length cap1) ∧ Z.cell? ⟨q, 0, none⟩ = some (.int .i64 x.r.x) ∧ Z.cell? ⟨q, 1, none⟩ = some (.int .i64 x.r.y) ∧ Z.cell? ⟨q, 2, none⟩ = some (.int .i64 x.r.a) ∧ Z.cell? ⟨q, 3, none⟩ = some (.int .i64 x.r.b)) 13 only_in (by kernel_rfl) (by kernel_rfl) ?_
                  refine anyZ_take 0 8 (v := ptr r) rfl (by kernel_rfl) (fun _ _ _ h => h.elim) (Or.inl ⟨by rfl, fun wx hx => run_y (by rfl) (by rfl) hx.1⟩) hSR ?_
                  try simp only [Act.put, List.getElem_toArray, List.getElem_cons_zero, List.getElem_cons_succ, List.setIfInBounds_toArray, List.set_cons_zero, List.set_cons_succ]
                  refine anyZ_take 1 8 (v := ptr r) rfl (by kernel_rfl) (fun _ _ _ h => h.elim) (Or.inl ⟨by rfl, fun wx hx => run_nc (by rfl) (by rfl)⟩) hSR ?_
                  try simp only [Act.put, List.getElem_toArray, List.getElem_cons_zero, List.getElem_cons_succ, List.setIfInBounds_toArray, List.set_cons_zero, List.set_cons_succ]
                  refine anyZ_take 2 8 (v := ptr r) rfl (by kernel_rfl) (fun _ _ _ h => h.elim) (Or.inl ⟨by rfl, fun wx hx => run_l (by rfl) (by rfl)⟩) hSR ?_
                  try simp only [Act.put, List.getElem_toArray, List.getElem_cons_zero, List.getElem_cons_succ, List.setIfInBounds_toArray, List.set_cons_zero, List.set_cons_succ]
                  refine anyZ_take 3 8 (v := .slice (some ⟨g1, 0, none⟩) pre.length cap1) rfl (by kernel_rfl) (fun _ _ _ h => h.elim) (Or.inl ⟨by rfl, fun wx hx => run_load (by rfl) (by rfl) hx.2.1⟩) hSR ?_
                  try simp only [Act.put, List.getElem_toArray, List.getElem_cons_zero, List.getElem_cons_succ, List.setIfInBounds_toArray, List.set_cons_zero, List.set_cons_succ]
                  refine anyZ_take 4 8 (v := .int .i64 (k : Nat)) rfl (by kernel_rfl) (fun _ _ _ h => h.elim) (Or.inl ⟨by rfl, fun wx hx => run_mv (by rfl) (by rfl)⟩) hSR ?_
                  try simp only [Act.put, List.getElem_toArray, List.getElem_cons_zero, List.getElem_cons_succ, List.setIfInBounds_toArray, List.set_cons_zero, List.set_cons_succ]
                  refine anyZ_take 5 8 (v := .int .i64 (k : Nat)) rfl (by kernel_rfl) (fun _ _ _ h => h.elim) (Or.inl ⟨by rfl, fun wx hx => run_mv (by rfl) (by rfl)⟩) hSR ?_
                  try simp only [Act.put, List.getElem_toArray, List.getElem_cons_zero, List.getElem_cons_succ, List.setIfInBounds_toArray, List.set_cons_zero, List.set_cons_succ]
                  refine anyZ_take 6 8 (v := .int .i64 ((k : Int) + 1)) rfl (by kernel_rfl) (fun _ _ _ h => h.elim) (Or.inl ⟨by rfl, fun wx hx => run_next (by rfl) (by rfl) (by rfl) hk1⟩) hSR ?_
                  try simp only [Act.put, List.getElem_toArray, List.getElem_cons_zero, List.getElem_cons_succ, List.setIfInBounds_toArray, List.set_cons_zero, List.set_cons_succ]
                  refine anyZ_take 7 8 (v := .slice (some ⟨g1, k * 5, none⟩) 1 (cap1 - k)) rfl (by kernel_rfl) (fun _ _ _ h => h.elim) (Or.inl ⟨by rfl, fun wx hx => run_part (by rfl) (by rfl) (by rfl) (by rfl) hkl hcp hcm⟩) hSR ?_
                  try simp only [Act.put, List.getElem_toArray, List.getElem_cons_zero, List.getElem_cons_succ, List.setIfInBounds_toArray, List.set_cons_zero, List.set_cons_succ]
                  refine anyZ_take 8 8 (v := .agg #[.slice (some ⟨g1, k * 5, none⟩) 1 (cap1 - k)]) rfl (by kernel_rfl) (fun _ _ _ h => h.elim) (Or.inl ⟨by rfl, fun wx hx => run_ix (by rfl) (by rfl)⟩) hSR ?_
                  try simp only [Act.put, List.getElem_toArray, List.getElem_cons_zero, List.getElem_cons_succ, List.setIfInBounds_toArray, List.set_cons_zero, List.set_cons_succ]
                  refine anyZ_take 10 8 (v := rct x.r.x x.r.y x.r.a x.r.b) rfl (by kernel_rfl) (fun _ _ _ h => h.elim) (Or.inl ⟨by rfl, fun wx hx => run_rO (by rfl) (by rfl) hx.2.2.1 hx.2.2.2.1 hx.2.2.2.2.1 hx.2.2.2.2.2⟩) hSR ?_
                  try simp only [Act.put, List.getElem_toArray, List.getElem_cons_zero, List.getElem_cons_succ, List.setIfInBounds_toArray, List.set_cons_zero, List.set_cons_succ]
                  refine anyZ_take 11 8 (v := .int .i64 x.id) rfl (by kernel_rfl) (fun _ _ _ h => h.elim) (Or.inl ⟨by rfl, fun wx hx => run_mv (by rfl) (by rfl)⟩) hSR ?_
                  try simp only [Act.put, List.getElem_toArray, List.getElem_cons_zero, List.getElem_cons_succ, List.setIfInBounds_toArray, List.set_cons_zero, List.set_cons_succ]
                  refine anyZ_ready (rs := [9]) (by kernel_rfl) (by simp) ?_
                  refine readyZ.cons rfl rfl (run_bx (by rfl) (by rfl)) (fun _ => HSb.out) ?_ readyZ.nil
                  try simp only [Act.put, List.getElem_toArray, List.getElem_cons_zero, List.getElem_cons_succ, List.setIfInBounds_toArray, List.set_cons_zero, List.set_cons_succ]
                  refine anyZ_ready (rs := [12]) (by kernel_rfl) (by simp) ?_
                  refine readyZ.call rfl rfl (run_call21 (by rfl) (by rfl) (by simp only [List.map_toArray, List.map_cons, List.map_nil]; rfl)) HFr.out ?_ readyZ.nil
                  rintro e W4 ⟨rfl, hb4⟩
                  have Ak4 := Ak.kept (bt Bb.out hb4)
                  have bq4 := (bqk.kept Bb.out).kept hb4
                  refine ⟨_, rfl, fun _ => ⟨Ak4.yx.cell, Ak4.rx.c, bq4.cells.1, bq4.cells.2.1, bq4.cells.2.2.1, bq4.cells.2.2.2⟩, ?_⟩
                  try simp only [Act.put, List.getElem_toArray, List.getElem_cons_zero, List.getElem_cons_succ, List.setIfInBounds_toArray, List.set_cons_zero, List.set_cons_succ]
                  refine anyZ_ready (rs := [13]) (by kernel_rfl) (by simp) ?_
                  refine readyZ.cons rfl rfl (run_not (b := true) (by rfl) (by rfl)) (fun h => absurd rfl h) ?_ readyZ.nil
                  try simp only [Act.put, List.getElem_toArray, List.getElem_cons_zero, List.getElem_cons_succ, List.setIfInBounds_toArray, List.set_cons_zero, List.set_cons_succ]
                  refine anyZ_done (by kernel_rfl) ?_ _
                  dsimp only [Only, Bool.not_true]
                  have HB4 := hide (bt hBk (bt Bb.out hb4))
                  clear Ak4 bq4 hb4 HSb HFr hSR Bb
                  gi_wp2_with fail
                  go_roundw
                  case rel => exact ⟨k + 1, by omega, by go_num, HB4.out⟩
                  case measure => simp [intOf]; omega
                · obtain rfl : k = pre.length := by omega
                  have hki : ¬ ((pre.length : Nat) : Int) < (pre.length : Nat) := by omega
                  have hSR : (fun Z : World => Z.cell? ⟨yb, 0, none⟩ = some (ptr r) ∧ Z.cell? ⟨r, 0, none⟩ = some (.slice av pre.length cap1) ∧ Z.cell? ⟨q, 0, none⟩ = some (.int .i64 x.r.x) ∧ Z.cell? ⟨q, 1, none⟩ = some (.int .i64 x.r.y) ∧ Z.cell? ⟨q, 2, none⟩ = some (.int .i64 x.r.a) ∧ Z.cell? ⟨q, 3, none⟩ = some (.int .i64 x.r.b)) wr.drew := ⟨cY, cR, bqk.cells.1, bqk.cells.2.1, bqk.cells.2.2.1, bqk.cells.2.2.2⟩
                  have Bb := box1 wr.drew (.cells #[.int .i64 x.id, .int .i64 x.r.x, .int .i64 x.r.y, .int .i64 x.r.a, .int .i64 x.r.b] 58)
                  have Akd := Ak.kept (Below.refl _ _).drew
                  have bqd := bqk.kept (Below.refl _ _).drew
                  have hBs := hBk.size
                  obtain ⟨v2, W2, rA, c1, hfr, c3, bq2, hv2, hKr, hAr2⟩ := Akd.push (show C ≤ wr.drew.heap.size from Nat.le_trans hCW hBs) x (by omega) (by omega) z4 y4 (by omega) (by omega) bqd
                  have HSb : Hid ((fun Z : World => Z.cell? ⟨yb, 0, none⟩ = some (ptr r) ∧ Z.cell? ⟨r, 0, none⟩ = some (.slice av pre.length cap1) ∧ Z.cell? ⟨q, 0, none⟩ = some (.int .i64 x.r.x) ∧ Z.cell? ⟨q, 1, none⟩ = some (.int .i64 x.r.y) ∧ Z.cell? ⟨q, 2, none⟩ = some (.int .i64 x.r.a) ∧ Z.cell? ⟨q, 3, none⟩ = some (.int .i64 x.r.b)) (wr.drew.alloc (.cells #[.int .i64 x.id, .int .i64 x.r.x, .int .i64 x.r.y, .int .i64 x.r.a, .int .i64 x.r.b] 58))) := hide (by
                    have A9 := Akd.kept Bb
                    have q9 := (bqd.kept Bb).cells
                    exact ⟨A9.yx.cell, A9.rx.c, q9.1, q9.2.1, q9.2.2.1, q9.2.2.2⟩)
                  have HSc : Hid ((fun Z : World => Z.cell? ⟨yb, 0, none⟩ = some (ptr r) ∧ Z.cell? ⟨r, 0, none⟩ = some (.slice av pre.length cap1) ∧ Z.cell? ⟨q, 0, none⟩ = some (.int .i64 x.r.x) ∧ Z.cell? ⟨q, 1, none⟩ = some (.int .i64 x.r.y) ∧ Z.cell? ⟨q, 2, none⟩ = some (.int .i64 x.r.a) ∧ Z.cell? ⟨q, 3, none⟩ = some (.int .i64 x.r.b)) W2) := hide ⟨c3, c1, bq2.cells.1, bq2.cells.2.1, bq2.cells.2.2.1, bq2.cells.2.2.2⟩
                  have HAp := hide rA
                  have HEn := hide (show Kr X4.heap.size C W (W2.setCell ⟨r, 0, none⟩ v2) ∧ ∃ v', Ar w X4 (W2.setCell ⟨r, 0, none⟩ v2) r yb C v' (pre ++ [x]) from ⟨(Kr.of_below hBk.drew).trans hKr, _, hAr2⟩)
                  clear rA c1 c3 bq2 hKr hAr2 Akd bqd Bb
                  gi_wp2_with fail
                  refine wpIn_only ?_
                  refine wpIn_region_zR (fun Z : World => Z.cell? ⟨yb, 0, none⟩ = some (ptr r) ∧ Z.cell? ⟨r, 0, none⟩ = some (.slice av pre.length cap1) ∧ Z.cell? ⟨q, 0, none⟩ = some (.int .i64 x.r.x) ∧ Z.cell? ⟨q, 1, none⟩ = some (.int .i64 x.r.y) ∧ Z.cell? ⟨q, 2, none⟩ = some (.int .i64 x.r.a) ∧ Z.cell? ⟨q, 3, none⟩ = some (.int .i64 x.r.b)) 12 only_in (by kernel_rfl) (by kernel_rfl) ?_
                  refine anyZ_take 0 8 (v := ptr r) rfl (by kernel_rfl) (fun _ _ _ h => h.elim) (Or.inl ⟨by rfl, fun wx hx => run_y (by rfl) (by rfl) hx.1⟩) hSR ?_
                  try simp only [Act.put, List.getElem_toArray, List.getElem_cons_zero, List.getElem_cons_succ, List.setIfInBounds_toArray, List.set_cons_zero, List.set_cons_succ]
                  refine anyZ_take 1 8 (v := ptr r) rfl (by kernel_rfl) (fun _ _ _ h => h.elim) (Or.inl ⟨by rfl, fun wx hx => run_y (by rfl) (by rfl) hx.1⟩) hSR ?_
                  try simp only [Act.put, List.getElem_toArray, List.getElem_cons_zero, List.getElem_cons_succ, List.setIfInBounds_toArray, List.set_cons_zero, List.set_cons_succ]
                  refine anyZ_take 2 8 (v := ptr r) rfl (by kernel_rfl) (fun _ _ _ h => h.elim) (Or.inl ⟨by rfl, fun wx hx => run_nc (by rfl) (by rfl)⟩) hSR ?_
                  try simp only [Act.put, List.getElem_toArray, List.getElem_cons_zero, List.getElem_cons_succ, List.setIfInBounds_toArray, List.set_cons_zero, List.set_cons_succ]
                  refine anyZ_take 3 8 (v := ptr r) rfl (by kernel_rfl) (fun _ _ _ h => h.elim) (Or.inl ⟨by rfl, fun wx hx => run_l (by rfl) (by rfl)⟩) hSR ?_
                  try simp only [Act.put, List.getElem_toArray, List.getElem_cons_zero, List.getElem_cons_succ, List.setIfInBounds_toArray, List.set_cons_zero, List.set_cons_succ]
                  refine anyZ_take 4 8 (v := .slice av pre.length cap1) rfl (by kernel_rfl) (fun _ _ _ h => h.elim) (Or.inl ⟨by rfl, fun wx hx => run_load (by rfl) (by rfl) hx.2.1⟩) hSR ?_
                  try simp only [Act.put, List.getElem_toArray, List.getElem_cons_zero, List.getElem_cons_succ, List.setIfInBounds_toArray, List.set_cons_zero, List.set_cons_succ]
                  refine anyZ_take 5 8 (v := .int .i64 x.id) rfl (by kernel_rfl) (fun _ _ _ h => h.elim) (Or.inl ⟨by rfl, fun wx hx => run_mv (by rfl) (by rfl)⟩) hSR ?_
                  try simp only [Act.put, List.getElem_toArray, List.getElem_cons_zero, List.getElem_cons_succ, List.setIfInBounds_toArray, List.set_cons_zero, List.set_cons_succ]
                  refine anyZ_take 6 8 (v := rct x.r.x x.r.y x.r.a x.r.b) rfl (by kernel_rfl) (fun _ _ _ h => h.elim) (Or.inl ⟨by rfl, fun wx hx => run_rO (by rfl) (by rfl) hx.2.2.1 hx.2.2.2.1 hx.2.2.2.2.1 hx.2.2.2.2.2⟩) hSR ?_
                  try simp only [Act.put, List.getElem_toArray, List.getElem_cons_zero, List.getElem_cons_succ, List.setIfInBounds_toArray, List.set_cons_zero, List.set_cons_succ]
                  refine anyZ_take 7 8 (v := .agg #[.int .i64 x.id, .int .i64 x.r.x, .int .i64 x.r.y, .int .i64 x.r.a, .int .i64 x.r.b]) rfl (by kernel_rfl) (fun _ _ _ h => h.elim) (Or.inl ⟨by rfl, fun wx hx => run_unit (by rfl) (by rfl) (by rfl)⟩) hSR ?_
                  try simp only [Act.put, List.getElem_toArray, List.getElem_cons_zero, List.getElem_cons_succ, List.setIfInBounds_toArray, List.set_cons_zero, List.set_cons_succ]
                  refine anyZ_ready (rs := [8]) (by kernel_rfl) (by simp) ?_
                  refine readyZ.cons rfl rfl (run_single (by rfl) (by rfl)) (fun _ => HSb.out) ?_ readyZ.nil
                  try simp only [Act.put, List.getElem_toArray, List.getElem_cons_zero, List.getElem_cons_succ, List.setIfInBounds_toArray, List.set_cons_zero, List.set_cons_succ]
                  refine anyZ_ready (rs := [9]) (by kernel_rfl) (by simp) ?_
                  refine readyZ.cons rfl rfl (run_append (by rfl) (by rfl) (by rfl) HAp.out) (fun _ => HSc.out) ?_ readyZ.nil
                  try simp only [Act.put, List.getElem_toArray, List.getElem_cons_zero, List.getElem_cons_succ, List.setIfInBounds_toArray, List.set_cons_zero, List.set_cons_succ]
                  refine anyZ_take 10 8 (v := ptr r) rfl (by kernel_rfl) (fun _ _ _ h => h.elim) (Or.inl ⟨by rfl, fun wx hx => run_nc (by rfl) (by rfl)⟩) HSc.out ?_
                  try simp only [Act.put, List.getElem_toArray, List.getElem_cons_zero, List.getElem_cons_succ, List.setIfInBounds_toArray, List.set_cons_zero, List.set_cons_succ]
                  refine anyZ_take 11 8 (v := ptr r) rfl (by kernel_rfl) (fun _ _ _ h => h.elim) (Or.inl ⟨by rfl, fun wx hx => run_l (by rfl) (by rfl)⟩) HSc.out ?_
                  try simp only [Act.put, List.getElem_toArray, List.getElem_cons_zero, List.getElem_cons_succ, List.setIfInBounds_toArray, List.set_cons_zero, List.set_cons_succ]
                  refine anyZ_ready (rs := [12]) (by kernel_rfl) (by simp) ?_
                  refine readyZ.skip rfl rfl (run_store (by rfl) (by rfl) (by rfl) hv2 HSc.out.2.1 hfr) (fun h => absurd rfl h) ?_ readyZ.nil
                  try simp only [Act.put, List.getElem_toArray, List.getElem_cons_zero, List.getElem_cons_succ, List.setIfInBounds_toArray, List.set_cons_zero, List.set_cons_succ]
                  refine anyZ_done (by kernel_rfl) ?_ _
                  dsimp only [Only]
                  exact HEn.out
            case done =>
              rintro D C W hD ⟨v', hAr⟩ hK
              have A5 := A4.range hAr hD hK
              gi_wp2_with fail
              exact ⟨⟨i + 1, _, v', _, D :: Ds, A5, by omega, by omega, by omega, mkU _ _ _ rfl⟩, by simp [intOf]; omega⟩
          · have hcb : (c == 0) = false := by simpa using hc0
            have hcd : decide (c = 0) = false := by simpa using hc0
            have hll := hz hc0
            subst hll
            have cY := A1.yx.cell
            clear hz hA
            gi_wp2_with fail
            refine ⟨trivial, ?_⟩
            refine (callsIn_wide.2 (same_yes _ _ _ _ _ _ _ _ A1.st A1.rx)).mono ?_
            rintro e X2 ⟨rfl, hb2⟩
            have A2 := A1.kept hb2
            have cY2 := A2.yx.cell
            have cR := A2.rx.c
            have fR := Boxed.frozen A2.rx.blk
            have HA2 := hide A2.clear
            clear A1 A2 cY hb2
            gi_wp2_with fail
            obtain ⟨Y, hY⟩ : ∃ Y, X2.setCell ⟨r, 0, none⟩ (.slice none 0 0) = Y := ⟨_, rfl⟩
            rw [hY] at HA2 ⊢
            clear hY cR fR
            refine ⟨trivial, ?_⟩
            refine (callsIn_wide.2 (all_is _ _)).mono ?_
            rintro e X4 ⟨rfl, hX4⟩
            have A4 := HA2.out.kept (show Below Y.heap.size Y X4 from hX4 ▸ box1 _ _)
            have m3 : Boxed X4 Y.heap.size 24 (ptr (fm + 1 + 1)) := by rw [hX4]; exact Boxed.new _ _ _
            have hF := A4.st.fine
            have z4 := A4.yx.lt
            have y4 := A4.bx.lt
            obtain ⟨cb, hcb⟩ : ∃ cb, Y.heap.size = cb := ⟨_, rfl⟩
            rw [hcb] at m3 ⊢
            clear hX4 HA2 hcb
            gi_wp2_with fail
            refine range_all (by omega) (c := cb) (p := fm + 1 + 1) rfl m3 A4.st rfl (fun C pre W => ∃ v', Ar w X4 W r yb C v' pre) ?hI ?h0
              (fun x a' W => ∃ q, X4.heap.size + 2 ≤ q ∧ Bq W q x.r ∧ ∃ u : Nat → Value, a' = { tmps := #[.slice (some ⟨g, o, none⟩) K.length c0, undef, ptr w.heap.size, ptr (fm + 1 + 1), ptr yb, .int .i64 (i : Nat), u 6, .int .i64 x.id, ptr q, u 9, .bool true, .bool false, ptr (fm + 1 + 1), .agg #[.slice none 0 0], ptr r, u 15, u 16, u 17, u 18, u 19, u 20, u 21, u 22, u 23, u 24, u 25, u 26, u 27, u 28, u 29, u 30, u 31, u 32, u 33, u 34, u 35, u 36, u 37, u 38, u 39, u 40, u 41, u 42, u 43, u 44, u 45, u 46, u 47, u 48, u 49, u 50, u 51, u 52, u 53, u 54, u 55, u 56, u 57, u 58, u 59, u 60, u 61, u 62, u 63, u 64, u 65, u 66, u 67, u 68, u 69, u 70, u 71, u 72, u 73, u 74, u 75, u 76, u 77, u 78, u 79, .int .i64 x.id, x.r.v, u 82, u 83, u 84, u 85, u 86, u 87, u 88, u 89, u 90, u 91, u 92, u 93, u 94, u 95, u 96, u 97, u 98, u 99, u 100, u 101, u 102, u 103, u 104, u 105, u 106, u 107, u 108, u 109, u 110, u 111, u 112, u 113, u 114, u 115, u 116, undef], defers := [] }) ?hAx ?assign ?body ?done
            case hI =>
              rintro C pre V1 V2 ⟨v', hAr⟩ tt
              exact ⟨v', hAr.inner (by omega) z4 y4 tt⟩
            case h0 =>
              intro W hzW hbW
              have A5 := A4.kept hbW
              exact ⟨_, ⟨A5.rx, fun k e => by simp [Value.ownBlock] at e, A5.bx, A5.yx, Turns.of_below hbW, by omega⟩⟩
            case hAx =>
              rintro x a' V1 V2 ⟨q, hq1, hq2, hq3⟩ tt
              exact ⟨q, hq1, tt.same (by omega) hq2, hq3⟩
            case assign =>
              rintro lo C pre x W K1 ⟨v', hAr⟩ hpre hCW hVC hK1
              gi_wp2
              have hb1 := box1 W (.cells #[.int .i64 x.r.x, .int .i64 x.r.y, .int .i64 x.r.a, .int .i64 x.r.b] 34)
              refine hK1 _ _ (Kr.of_below hb1) ⟨v', hAr.kept hb1⟩ ⟨W.heap.size, by omega, heap_alloc_new W _, ?_⟩
              exact mkU _ _ _ rfl
            case body =>
              rintro lo C pre x a' W hlo ⟨v', hAr⟩ ⟨q, hq, bq, u, rfl⟩ hpre hCW hVC
              dsimp only
              have hxm : x ∈ _ := hpre.subset (List.mem_append_right _ (List.mem_singleton_self x))
              have hpl : pre.length ≤ 256 := by have h1 := hpre.length_le; have h2 := hF.len; simp at h1; omega
              obtain ⟨av, cap1, rfl, hcp, hcm, hat⟩ := hAr.rx.us.form
              gi_wp2_with fail
              gi_loopw [9] (fun d wr => ∃ k : Nat, k ≤ pre.length ∧ d = .int .i64 k ∧ Below W.heap.size W wr) (fun d _ => pre.length - (intOf d).toNat)
              case atStart => exact ⟨0, Nat.zero_le _, rfl, Below.refl _ _⟩
              case round =>
                obtain ⟨k, hk, rfl, hBk⟩ := hrel
                have Ak := hAr.kept hBk
                have bqk := bq.kept hBk
                have cY := Ak.yx.cell
                have cR := Ak.rx.c
                have hkI : (0 : Int) ≤ (k : Nat) ∧ (pre.length : Int) ≤ 256 := by omega
                by_cases hkl : k < pre.length
                · obtain ⟨s, hs⟩ : ∃ s, pre[k]? = some s := ⟨_, List.getElem?_eq_getElem hkl⟩
                  have hsm : s ∈ _ := hpre.subset (List.mem_append_left _ (List.mem_of_getElem? hs))
                  have hki : (k : Int) < (pre.length : Nat) := by omega
                  have hk1 : k ≤ 1000 := by omega
                  obtain ⟨g1, rfl, -, -, -, -, -, -⟩ := hat k s hs
                  have hSR : (fun Z : World => Z.cell? ⟨yb, 0, none⟩ = some (ptr r) ∧ Z.cell? ⟨r, 0, none⟩ = some (.slice (some ⟨g1, 0, none⟩) pre.length cap1) ∧ Z.cell? ⟨q, 0, none⟩ = some (.int .i64 x.r.x) ∧ Z.cell? ⟨q, 1, none⟩ = some (.int .i64 x.r.y) ∧ Z.cell? ⟨q, 2, none⟩ = some (.int .i64 x.r.a) ∧ Z.cell? ⟨q, 3, none⟩ = some (.int .i64 x.r.b)) wr.drew := ⟨cY, cR, bqk.cells.1, bqk.cells.2.1, bqk.cells.2.2.1, bqk.cells.2.2.2⟩
                  have Bb : Hid (Below wr.heap.size wr (wr.drew.alloc (.cells #[.slice (some ⟨g1, k * 5, none⟩) 1 (cap1 - k)] 29))) := hide (bt (Below.refl _ _).drew (box1 wr.drew _))
                  have HSb : Hid ((fun Z : World => Z.cell? ⟨yb, 0, none⟩ = some (ptr r) ∧ Z.cell? ⟨r, 0, none⟩ = some (.slice (some ⟨g1, 0, none⟩) pre.length cap1) ∧ Z.cell? ⟨q, 0, none⟩ = some (.int .i64 x.r.x) ∧ Z.cell? ⟨q, 1, none⟩ = some (.int .i64 x.r.y) ∧ Z.cell? ⟨q, 2, none⟩ = some (.int .i64 x.r.a) ∧ Z.cell? ⟨q, 3, none⟩ = some (.int .i64 x.r.b)) (wr.drew.alloc (.cells #[.slice (some ⟨g1, k * 5, none⟩) 1 (cap1 - k)] 29))) := hide (by
                    have A9 := Ak.kept Bb.out
                    have q9 := (bqk.kept Bb.out).cells
                    exact ⟨A9.yx.cell, A9.rx.c, q9.1, q9.2.1, q9.2.2.1, q9.2.2.2⟩)
                  have hRx := Us.one (Ak.kept Bb.out).rx.us hs rfl (r := wr.drew.heap.size) (c := cap1 - k) (by omega) (cell_of_row _ _ 0 _ _ _ (heap_alloc_new wr.drew _))
                  have HFr := hide (refree_any wr.drew.heap.size (some ⟨g1, k * 5, none⟩) (cap1 - k) [s] x.id x.r.x x.r.y x.r.a x.r.b _ hRx)
                  rw [hF.free hsm hxm] at HFr
                  clear hRx
                  gi_wp2_with fail
                  refine wpIn_only ?_
                  refine wpIn_region_zR (fun Z : World => Z.cell? ⟨yb, 0, none⟩ = some (ptr r) ∧ Z.cell? ⟨r, 0, none⟩ = some (.slice (some ⟨g1, 0, none⟩) pre.length cap1) ∧ Z.cell? ⟨q, 0, none⟩ = some (.int .i64 x.r.x) ∧ Z.cell? ⟨q, 1, none⟩ = some (.int .i64 x.r.y) ∧ Z.cell? ⟨q, 2, none⟩ = some (.int .i64 x.r.a) ∧ Z.cell? ⟨q, 3, none⟩ = some (.int .i64 x.r.b)) 13 only_in (by kernel_rfl) (by kernel_rfl) ?_
                  refine anyZ_take 0 8 (v := ptr r) rfl (by kernel_rfl) (fun _ _ _ h => h.elim) (Or.inl ⟨by rfl, fun wx hx => run_y (by rfl) (by rfl) hx.1⟩) hSR ?_
                  try simp only [Act.put, List.getElem_toArray, List.getElem_cons_zero, List.getElem_cons_succ, List.setIfInBounds_toArray, List.set_cons_zero, List.set_cons_succ]
                  refine anyZ_take 1 8 (v := ptr r) rfl (by kernel_rfl) (fun _ _ _ h => h.elim) (Or.inl ⟨by rfl, fun wx hx => run_nc (by rfl) (by rfl)⟩) hSR ?_
                  try simp only [Act.put, List.getElem_toArray, List.getElem_cons_zero, List.getElem_cons_succ, List.setIfInBounds_toArray, List.set_cons_zero, List.set_cons_succ]
                  refine anyZ_take 2 8 (v := ptr r) rfl (by kernel_rfl) (fun _ _ _ h => h.elim) (Or.inl ⟨by rfl, fun wx hx => run_l (by rfl) (by rfl)⟩) hSR ?_
                  try simp only [Act.put, List.getElem_toArray, List.getElem_cons_zero, List.getElem_cons_succ, List.setIfInBounds_toArray, List.set_cons_zero, List.set_cons_succ]
                  refine anyZ_take 3 8 (v := .slice (some ⟨g1, 0, none⟩) pre.length cap1) rfl (by kernel_rfl) (fun _ _ _ h => h.elim) (Or.inl ⟨by rfl, fun wx hx => run_load (by rfl) (by rfl) hx.2.1⟩) hSR ?_
                  try simp only [Act.put, List.getElem_toArray, List.getElem_cons_zero, List.getElem_cons_succ, List.setIfInBounds_toArray, List.set_cons_zero, List.set_cons_succ]
                  refine anyZ_take 4 8 (v := .int .i64 (k : Nat)) rfl (by kernel_rfl) (fun _ _ _ h => h.elim) (Or.inl ⟨by rfl, fun wx hx => run_mv (by rfl) (by rfl)⟩) hSR ?_
                  try simp only [Act.put, List.getElem_toArray, List.getElem_cons_zero, List.getElem_cons_succ, List.setIfInBounds_toArray, List.set_cons_zero, List.set_cons_succ]
                  refine anyZ_take 5 8 (v := .int .i64 (k : Nat)) rfl (by kernel_rfl) (fun _ _ _ h => h.elim) (Or.inl ⟨by rfl, fun wx hx => run_mv (by rfl) (by rfl)⟩) hSR ?_
                  try simp only [Act.put, List.getElem_toArray, List.getElem_cons_zero, List.getElem_cons_succ, List.setIfInBounds_toArray, List.set_cons_zero, List.set_cons_succ]
                  refine anyZ_take 6 8 (v := .int .i64 ((k : Int) + 1)) rfl (by kernel_rfl) (fun _ _ _ h => h.elim) (Or.inl ⟨by rfl, fun wx hx => run_next (by rfl) (by rfl) (by rfl) hk1⟩) hSR ?_
                  try simp only [Act.put, List.getElem_toArray, List.getElem_cons_zero, List.getElem_cons_succ, List.setIfInBounds_toArray, List.set_cons_zero, List.set_cons_succ]
                  refine anyZ_take 7 8 (v := .slice (some ⟨g1, k * 5, none⟩) 1 (cap1 - k)) rfl (by kernel_rfl) (fun _ _ _ h => h.elim) (Or.inl ⟨by rfl, fun wx hx => run_part (by rfl) (by rfl) (by rfl) (by rfl) hkl hcp hcm⟩) hSR ?_
                  try simp only [Act.put, List.getElem_toArray, List.getElem_cons_zero, List.getElem_cons_succ, List.setIfInBounds_toArray, List.set_cons_zero, List.set_cons_succ]
                  refine anyZ_take 8 8 (v := .agg #[.slice (some ⟨g1, k * 5, none⟩) 1 (cap1 - k)]) rfl (by kernel_rfl) (fun _ _ _ h => h.elim) (Or.inl ⟨by rfl, fun wx hx => run_ix (by rfl) (by rfl)⟩) hSR ?_
                  try simp only [Act.put, List.getElem_toArray, List.getElem_cons_zero, List.getElem_cons_succ, List.setIfInBounds_toArray, List.set_cons_zero, List.set_cons_succ]
                  refine anyZ_take 10 8 (v := rct x.r.x x.r.y x.r.a x.r.b) rfl (by kernel_rfl) (fun _ _ _ h => h.elim) (Or.inl ⟨by rfl, fun wx hx => run_rO (by rfl) (by rfl) hx.2.2.1 hx.2.2.2.1 hx.2.2.2.2.1 hx.2.2.2.2.2⟩) hSR ?_
                  try simp only [Act.put, List.getElem_toArray, List.getElem_cons_zero, List.getElem_cons_succ, List.setIfInBounds_toArray, List.set_cons_zero, List.set_cons_succ]
                  refine anyZ_take 11 8 (v := .int .i64 x.id) rfl (by kernel_rfl) (fun _ _ _ h => h.elim) (Or.inl ⟨by rfl, fun wx hx => run_mv (by rfl) (by rfl)⟩) hSR ?_
                  try simp only [Act.put, List.getElem_toArray, List.getElem_cons_zero, List.getElem_cons_succ, List.setIfInBounds_toArray, List.set_cons_zero, List.set_cons_succ]
                  refine anyZ_ready (rs := [9]) (by kernel_rfl) (by simp) ?_
                  refine readyZ.cons rfl rfl (run_bx (by rfl) (by rfl)) (fun _ => HSb.out) ?_ readyZ.nil
                  try simp only [Act.put, List.getElem_toArray, List.getElem_cons_zero, List.getElem_cons_succ, List.setIfInBounds_toArray, List.set_cons_zero, List.set_cons_succ]
                  refine anyZ_ready (rs := [12]) (by kernel_rfl) (by simp) ?_
                  refine readyZ.call rfl rfl (run_call21 (by rfl) (by rfl) (by simp only [List.map_toArray, List.map_cons, List.map_nil]; rfl)) HFr.out ?_ readyZ.nil
                  rintro e W4 ⟨rfl, hb4⟩
                  have Ak4 := Ak.kept (bt Bb.out hb4)
                  have bq4 := (bqk.kept Bb.out).kept hb4
                  refine ⟨_, rfl, fun _ => ⟨Ak4.yx.cell, Ak4.rx.c, bq4.cells.1, bq4.cells.2.1, bq4.cells.2.2.1, bq4.cells.2.2.2⟩, ?_⟩
                  try simp only [Act.put, List.getElem_toArray, List.getElem_cons_zero, List.getElem_cons_succ, List.setIfInBounds_toArray, List.set_cons_zero, List.set_cons_succ]
                  refine anyZ_ready (rs := [13]) (by kernel_rfl) (by simp) ?_
                  refine readyZ.cons rfl rfl (run_not (b := true) (by rfl) (by rfl)) (fun h => absurd rfl h) ?_ readyZ.nil
                  try simp only [Act.put, List.getElem_toArray, List.getElem_cons_zero, List.getElem_cons_succ, List.setIfInBounds_toArray, List.set_cons_zero, List.set_cons_succ]
                  refine anyZ_done (by kernel_rfl) ?_ _
                  dsimp only [Only, Bool.not_true]
                  have HB4 := hide (bt hBk (bt Bb.out hb4))
                  clear Ak4 bq4 hb4 HSb HFr hSR Bb
                  gi_wp2_with fail
                  go_roundw
                  case rel => exact ⟨k + 1, by omega, by go_num, HB4.out⟩
                  case measure => simp [intOf]; omega
                · obtain rfl : k = pre.length := by omega
                  have hki : ¬ ((pre.length : Nat) : Int) < (pre.length : Nat) := by omega
                  have hSR : (fun Z : World => Z.cell? ⟨yb, 0, none⟩ = some (ptr r) ∧ Z.cell? ⟨r, 0, none⟩ = some (.slice av pre.length cap1) ∧ Z.cell? ⟨q, 0, none⟩ = some (.int .i64 x.r.x) ∧ Z.cell? ⟨q, 1, none⟩ = some (.int .i64 x.r.y) ∧ Z.cell? ⟨q, 2, none⟩ = some (.int .i64 x.r.a) ∧ Z.cell? ⟨q, 3, none⟩ = some (.int .i64 x.r.b)) wr.drew := ⟨cY, cR, bqk.cells.1, bqk.cells.2.1, bqk.cells.2.2.1, bqk.cells.2.2.2⟩
                  have Bb := box1 wr.drew (.cells #[.int .i64 x.id, .int .i64 x.r.x, .int .i64 x.r.y, .int .i64 x.r.a, .int .i64 x.r.b] 58)
                  have Akd := Ak.kept (Below.refl _ _).drew
                  have bqd := bqk.kept (Below.refl _ _).drew
                  have hBs := hBk.size
                  obtain ⟨v2, W2, rA, c1, hfr, c3, bq2, hv2, hKr, hAr2⟩ := Akd.push (show C ≤ wr.drew.heap.size from Nat.le_trans hCW hBs) x (by omega) (by omega) z4 y4 (by omega) (by omega) bqd
                  have HSb : Hid ((fun Z : World => Z.cell? ⟨yb, 0, none⟩ = some (ptr r) ∧ Z.cell? ⟨r, 0, none⟩ = some (.slice av pre.length cap1) ∧ Z.cell? ⟨q, 0, none⟩ = some (.int .i64 x.r.x) ∧ Z.cell? ⟨q, 1, none⟩ = some (.int .i64 x.r.y) ∧ Z.cell? ⟨q, 2, none⟩ = some (.int .i64 x.r.a) ∧ Z.cell? ⟨q, 3, none⟩ = some (.int .i64 x.r.b)) (wr.drew.alloc (.cells #[.int .i64 x.id, .int .i64 x.r.x, .int .i64 x.r.y, .int .i64 x.r.a, .int .i64 x.r.b] 58))) := hide (by
                    have A9 := Akd.kept Bb
                    have q9 := (bqd.kept Bb).cells
                    exact ⟨A9.yx.cell, A9.rx.c, q9.1, q9.2.1, q9.2.2.1, q9.2.2.2⟩)
                  have HSc : Hid ((fun Z : World => Z.cell? ⟨yb, 0, none⟩ = some (ptr r) ∧ Z.cell? ⟨r, 0, none⟩ = some (.slice av pre.length cap1) ∧ Z.cell? ⟨q, 0, none⟩ = some (.int .i64 x.r.x) ∧ Z.cell? ⟨q, 1, none⟩ = some (.int .i64 x.r.y) ∧ Z.cell? ⟨q, 2, none⟩ = some (.int .i64 x.r.a) ∧ Z.cell? ⟨q, 3, none⟩ = some (.int .i64 x.r.b)) W2) := hide ⟨c3, c1, bq2.cells.1, bq2.cells.2.1, bq2.cells.2.2.1, bq2.cells.2.2.2⟩
                  have HAp := hide rA
                  have HEn := hide (show Kr X4.heap.size C W (W2.setCell ⟨r, 0, none⟩ v2) ∧ ∃ v', Ar w X4 (W2.setCell ⟨r, 0, none⟩ v2) r yb C v' (pre ++ [x]) from ⟨(Kr.of_below hBk.drew).trans hKr, _, hAr2⟩)
                  clear rA c1 c3 bq2 hKr hAr2 Akd bqd Bb
                  gi_wp2_with fail
                  refine wpIn_only ?_
                  refine wpIn_region_zR (fun Z : World => Z.cell? ⟨yb, 0, none⟩ = some (ptr r) ∧ Z.cell? ⟨r, 0, none⟩ = some (.slice av pre.length cap1) ∧ Z.cell? ⟨q, 0, none⟩ = some (.int .i64 x.r.x) ∧ Z.cell? ⟨q, 1, none⟩ = some (.int .i64 x.r.y) ∧ Z.cell? ⟨q, 2, none⟩ = some (.int .i64 x.r.a) ∧ Z.cell? ⟨q, 3, none⟩ = some (.int .i64 x.r.b)) 12 only_in (by kernel_rfl) (by kernel_rfl) ?_
                  refine anyZ_take 0 8 (v := ptr r) rfl (by kernel_rfl) (fun _ _ _ h => h.elim) (Or.inl ⟨by rfl, fun wx hx => run_y (by rfl) (by rfl) hx.1⟩) hSR ?_
                  try simp only [Act.put, List.getElem_toArray, List.getElem_cons_zero, List.getElem_cons_succ, List.setIfInBounds_toArray, List.set_cons_zero, List.set_cons_succ]
                  refine anyZ_take 1 8 (v := ptr r) rfl (by kernel_rfl) (fun _ _ _ h => h.elim) (Or.inl ⟨by rfl, fun wx hx => run_y (by rfl) (by rfl) hx.1⟩) hSR ?_
                  try simp only [Act.put, List.getElem_toArray, List.getElem_cons_zero, List.getElem_cons_succ, List.setIfInBounds_toArray, List.set_cons_zero, List.set_cons_succ]
                  refine anyZ_take 2 8 (v := ptr r) rfl (by kernel_rfl) (fun _ _ _ h => h.elim) (Or.inl ⟨by rfl, fun wx hx => run_nc (by rfl) (by rfl)⟩) hSR ?_
                  try simp only [Act.put, List.getElem_toArray, List.getElem_cons_zero, List.getElem_cons_succ, List.setIfInBounds_toArray, List.set_cons_zero, List.set_cons_succ]
                  refine anyZ_take 3 8 (v := ptr r) rfl (by kernel_rfl) (fun _ _ _ h => h.elim) (Or.inl ⟨by rfl, fun wx hx => run_l (by rfl) (by rfl)⟩) hSR ?_
                  try simp only [Act.put, List.getElem_toArray, List.getElem_cons_zero, List.getElem_cons_succ, List.setIfInBounds_toArray, List.set_cons_zero, List.set_cons_succ]
                  refine anyZ_take 4 8 (v := .slice av pre.length cap1) rfl (by kernel_rfl) (fun _ _ _ h => h.elim) (Or.inl ⟨by rfl, fun wx hx => run_load (by rfl) (by rfl) hx.2.1⟩) hSR ?_
                  try simp only [Act.put, List.getElem_toArray, List.getElem_cons_zero, List.getElem_cons_succ, List.setIfInBounds_toArray, List.set_cons_zero, List.set_cons_succ]
                  refine anyZ_take 5 8 (v := .int .i64 x.id) rfl (by kernel_rfl) (fun _ _ _ h => h.elim) (Or.inl ⟨by rfl, fun wx hx => run_mv (by rfl) (by rfl)⟩) hSR ?_
                  try simp only [Act.put, List.getElem_toArray, List.getElem_cons_zero, List.getElem_cons_succ, List.setIfInBounds_toArray, List.set_cons_zero, List.set_cons_succ]
                  refine anyZ_take 6 8 (v := rct x.r.x x.r.y x.r.a x.r.b) rfl (by kernel_rfl) (fun _ _ _ h => h.elim) (Or.inl ⟨by rfl, fun wx hx => run_rO (by rfl) (by rfl) hx.2.2.1 hx.2.2.2.1 hx.2.2.2.2.1 hx.2.2.2.2.2⟩) hSR ?_
                  try simp only [Act.put, List.getElem_toArray, List.getElem_cons_zero, List.getElem_cons_succ, List.setIfInBounds_toArray, List.set_cons_zero, List.set_cons_succ]
                  refine anyZ_take 7 8 (v := .agg #[.int .i64 x.id, .int .i64 x.r.x, .int .i64 x.r.y, .int .i64 x.r.a, .int .i64 x.r.b]) rfl (by kernel_rfl) (fun _ _ _ h => h.elim) (Or.inl ⟨by rfl, fun wx hx => run_unit (by rfl) (by rfl) (by rfl)⟩) hSR ?_
                  try simp only [Act.put, List.getElem_toArray, List.getElem_cons_zero, List.getElem_cons_succ, List.setIfInBounds_toArray, List.set_cons_zero, List.set_cons_succ]
                  refine anyZ_ready (rs := [8]) (by kernel_rfl) (by simp) ?_
                  refine readyZ.cons rfl rfl (run_single (by rfl) (by rfl)) (fun _ => HSb.out) ?_ readyZ.nil
                  try simp only [Act.put, List.getElem_toArray, List.getElem_cons_zero, List.getElem_cons_succ, List.setIfInBounds_toArray, List.set_cons_zero, List.set_cons_succ]
                  refine anyZ_ready (rs := [9]) (by kernel_rfl) (by simp) ?_
                  refine readyZ.cons rfl rfl (run_append (by rfl) (by rfl) (by rfl) HAp.out) (fun _ => HSc.out) ?_ readyZ.nil
                  try simp only [Act.put, List.getElem_toArray, List.getElem_cons_zero, List.getElem_cons_succ, List.setIfInBounds_toArray, List.set_cons_zero, List.set_cons_succ]
                  refine anyZ_take 10 8 (v := ptr r) rfl (by kernel_rfl) (fun _ _ _ h => h.elim) (Or.inl ⟨by rfl, fun wx hx => run_nc (by rfl) (by rfl)⟩) HSc.out ?_
                  try simp only [Act.put, List.getElem_toArray, List.getElem_cons_zero, List.getElem_cons_succ, List.setIfInBounds_toArray, List.set_cons_zero, List.set_cons_succ]
                  refine anyZ_take 11 8 (v := ptr r) rfl (by kernel_rfl) (fun _ _ _ h => h.elim) (Or.inl ⟨by rfl, fun wx hx => run_l (by rfl) (by rfl)⟩) HSc.out ?_
                  try simp only [Act.put, List.getElem_toArray, List.getElem_cons_zero, List.getElem_cons_succ, List.setIfInBounds_toArray, List.set_cons_zero, List.set_cons_succ]
                  refine anyZ_ready (rs := [12]) (by kernel_rfl) (by simp) ?_
                  refine readyZ.skip rfl rfl (run_store (by rfl) (by rfl) (by rfl) hv2 HSc.out.2.1 hfr) (fun h => absurd rfl h) ?_ readyZ.nil
                  try simp only [Act.put, List.getElem_toArray, List.getElem_cons_zero, List.getElem_cons_succ, List.setIfInBounds_toArray, List.set_cons_zero, List.set_cons_succ]
                  refine anyZ_done (by kernel_rfl) ?_ _
                  dsimp only [Only]
                  exact HEn.out
            case done =>
              rintro D C W hD ⟨v', hAr⟩ hK
              have A5 := A4.range hAr hD hK
              gi_wp2_with fail
              exact ⟨⟨i + 1, _, v', _, D :: Ds, A5, by omega, by omega, by omega, mkU _ _ _ rfl⟩, by simp [intOf]; omega⟩
        · have e2 : decide (Int.tmod t.d 3 = 2) = false := by simpa using q2
          gi_wp2_with fail
          refine wpIn_only ?_
          refine wpIn_wide.2 ?_
          refine wp_region_z (fun Z : World => Z.cell? ⟨g, o + i * 6 + 1, none⟩ = some (.int .i64 t.i) ∧ Z.cell? ⟨g, o + i * 6 + 2, none⟩ = some (.int .i64 t.x) ∧ Z.cell? ⟨g, o + i * 6 + 3, none⟩ = some (.int .i64 t.y) ∧ Z.cell? ⟨g, o + i * 6 + 4, none⟩ = some (.int .i64 t.a) ∧ Z.cell? ⟨g, o + i * 6 + 5, none⟩ = some (.int .i64 t.b)) 12 (by kernel_rfl) ?_
          refine anyZ_take 0 8 (v := ptr (fm + 1 + 1)) rfl (by kernel_rfl) (fun _ _ _ h => h.elim) (Or.inl ⟨by rfl, fun wx hx => run_mv (by rfl) (by rfl)⟩) hSA ?_
          try simp only [Act.put, List.getElem_toArray, List.getElem_cons_zero, List.getElem_cons_succ, List.setIfInBounds_toArray, List.set_cons_zero, List.set_cons_succ]
          refine anyZ_take 1 8 (v := .slice (some ⟨g, o, none⟩) K.length c0) rfl (by kernel_rfl) (fun _ _ _ h => h.elim) (Or.inl ⟨by rfl, fun wx hx => run_mv (by rfl) (by rfl)⟩) hSA ?_
          try simp only [Act.put, List.getElem_toArray, List.getElem_cons_zero, List.getElem_cons_succ, List.setIfInBounds_toArray, List.set_cons_zero, List.set_cons_succ]
          refine anyZ_take 2 8 (v := .int .i64 (i : Nat)) rfl (by kernel_rfl) (fun _ _ _ h => h.elim) (Or.inl ⟨by rfl, fun wx hx => run_mv (by rfl) (by rfl)⟩) hSA ?_
          try simp only [Act.put, List.getElem_toArray, List.getElem_cons_zero, List.getElem_cons_succ, List.setIfInBounds_toArray, List.set_cons_zero, List.set_cons_succ]
          refine anyZ_take 3 8 (v := .pointer (some ⟨g, o + i * 6, none⟩)) rfl (by kernel_rfl) (fun _ _ _ h => h.elim) (Or.inl ⟨by rfl, fun wx hx => run_idx22 (by rfl) (by rfl) (by rfl) hlt.1⟩) hSA ?_
          try simp only [Act.put, List.getElem_toArray, List.getElem_cons_zero, List.getElem_cons_succ, List.setIfInBounds_toArray, List.set_cons_zero, List.set_cons_succ]
          refine anyZ_take 4 8 (v := .pointer (some ⟨g, o + i * 6 + 1, none⟩)) rfl (by kernel_rfl) (fun _ _ _ h => h.elim) (Or.inl ⟨by rfl, fun wx hx => run_b1 (by rfl) (by rfl)⟩) hSA ?_
          try simp only [Act.put, List.getElem_toArray, List.getElem_cons_zero, List.getElem_cons_succ, List.setIfInBounds_toArray, List.set_cons_zero, List.set_cons_succ]
          refine anyZ_take 5 8 (v := .int .i64 t.i) rfl (by kernel_rfl) (fun _ _ _ h => h.elim) (Or.inl ⟨by rfl, fun wx hx => run_i (by rfl) (by rfl) hx.1⟩) hSA ?_
          try simp only [Act.put, List.getElem_toArray, List.getElem_cons_zero, List.getElem_cons_succ, List.setIfInBounds_toArray, List.set_cons_zero, List.set_cons_succ]
          refine anyZ_take 6 8 (v := .slice (some ⟨g, o, none⟩) K.length c0) rfl (by kernel_rfl) (fun _ _ _ h => h.elim) (Or.inl ⟨by rfl, fun wx hx => run_mv (by rfl) (by rfl)⟩) hSA ?_
          try simp only [Act.put, List.getElem_toArray, List.getElem_cons_zero, List.getElem_cons_succ, List.setIfInBounds_toArray, List.set_cons_zero, List.set_cons_succ]
          refine anyZ_take 7 8 (v := .int .i64 (i : Nat)) rfl (by kernel_rfl) (fun _ _ _ h => h.elim) (Or.inl ⟨by rfl, fun wx hx => run_mv (by rfl) (by rfl)⟩) hSA ?_
          try simp only [Act.put, List.getElem_toArray, List.getElem_cons_zero, List.getElem_cons_succ, List.setIfInBounds_toArray, List.set_cons_zero, List.set_cons_succ]
          refine anyZ_take 8 8 (v := .pointer (some ⟨g, o + i * 6, none⟩)) rfl (by kernel_rfl) (fun _ _ _ h => h.elim) (Or.inl ⟨by rfl, fun wx hx => run_idx22 (by rfl) (by rfl) (by rfl) hlt.1⟩) hSA ?_
          try simp only [Act.put, List.getElem_toArray, List.getElem_cons_zero, List.getElem_cons_succ, List.setIfInBounds_toArray, List.set_cons_zero, List.set_cons_succ]
          refine anyZ_take 9 8 (v := .pointer (some ⟨g, o + i * 6 + 2, none⟩)) rfl (by kernel_rfl) (fun _ _ _ h => h.elim) (Or.inl ⟨by rfl, fun wx hx => run_b2 (by rfl) (by rfl)⟩) hSA ?_
          try simp only [Act.put, List.getElem_toArray, List.getElem_cons_zero, List.getElem_cons_succ, List.setIfInBounds_toArray, List.set_cons_zero, List.set_cons_succ]
          refine anyZ_take 10 8 (v := rct t.x t.y t.a t.b) rfl (by kernel_rfl) (fun _ _ _ h => h.elim) (Or.inl ⟨by rfl, fun wx hx => run_rO (by rfl) (by rfl) hx.2.1 hx.2.2.1 hx.2.2.2.1 hx.2.2.2.2⟩) hSA ?_
          try simp only [Act.put, List.getElem_toArray, List.getElem_cons_zero, List.getElem_cons_succ, List.setIfInBounds_toArray, List.set_cons_zero, List.set_cons_succ]
          refine anyZ_ready (rs := [11]) (by kernel_rfl) (by simp) ?_
          refine readyZ.call rfl rfl (run_call19 (by rfl) (by rfl) (by simp only [List.map_toArray, List.map_cons, List.map_nil]; rfl)) (put_st (x := t.x) (y := t.y) (a := t.a) (b := t.b) (hA.kept (Below.refl _ _).drew).st hokt.2.1 hmm) ?_ readyZ.nil
          rintro e X1 ⟨rfl, ⟨m1, hm1, s1⟩, t1⟩
          refine ⟨_, rfl, fun _ => ?_, ?_⟩
          · exact ⟨t1.cell (by omega) d1, t1.cell (by omega) d2, t1.cell (by omega) d3, t1.cell (by omega) d4, t1.cell (by omega) d5⟩
          try simp only [Act.put, List.getElem_toArray, List.getElem_cons_zero, List.getElem_cons_succ, List.setIfInBounds_toArray, List.set_cons_zero, List.set_cons_succ]
          refine anyZ_ready (rs := [12]) (by kernel_rfl) (by simp) ?_
          refine readyZ.cons rfl rfl (run_as (v := .int .i64 (putC l t.i t.x t.y t.a t.b)) (by rfl) (by rfl)) (fun h => absurd rfl h) ?_ readyZ.nil
          try simp only [Act.put, List.getElem_toArray, List.getElem_cons_zero, List.getElem_cons_succ, List.setIfInBounds_toArray, List.set_cons_zero, List.set_cons_succ]
          refine anyZ_done (by kernel_rfl) ?_ _
          dsimp only [Only]
          have A1 := (hA.kept (Below.refl _ _).drew).act s1 t1
          obtain ⟨l1, hl1⟩ : ∃ l1, putL l t.i t.x t.y t.a t.b = l1 := ⟨_, rfl⟩
          have hz : putC l t.i t.x t.y t.a t.b ≠ 0 → l1 = l := fun h => hl1 ▸ put_zero h
          obtain ⟨c, hc⟩ : ∃ c, putC l t.i t.x t.y t.a t.b = c := ⟨_, rfl⟩
          rw [hl1] at A1
          rw [hc] at hz ⊢
          clear hl1 hc s1 t1 d0 d1 d2 d3 d4 d5 hSA
          by_cases hc0 : c = 0
          · subst hc0
            have cY := A1.yx.cell
            have cR := A1.rx.c
            have fR := Boxed.frozen A1.rx.blk
            have HA2 := hide A1.clear
            clear A1 hz hA
            gi_wp2_with fail
            refine ⟨trivial, ?_⟩
            gi_wp2_with fail
            obtain ⟨Y, hY⟩ : ∃ Y, X1.setCell ⟨r, 0, none⟩ (.slice none 0 0) = Y := ⟨_, rfl⟩
            rw [hY] at HA2 ⊢
            clear hY cR fR
            refine ⟨trivial, ?_⟩
            refine (callsIn_wide.2 (all_is _ _)).mono ?_
            rintro e X4 ⟨rfl, hX4⟩
            have A4 := HA2.out.kept (show Below Y.heap.size Y X4 from hX4 ▸ box1 _ _)
            have m3 : Boxed X4 Y.heap.size 24 (ptr (fm + 1 + 1)) := by rw [hX4]; exact Boxed.new _ _ _
            have hF := A4.st.fine
            have z4 := A4.yx.lt
            have y4 := A4.bx.lt
            obtain ⟨cb, hcb⟩ : ∃ cb, Y.heap.size = cb := ⟨_, rfl⟩
            rw [hcb] at m3 ⊢
            clear hX4 HA2 hcb
            gi_wp2_with fail
            refine range_all (by omega) (c := cb) (p := fm + 1 + 1) rfl m3 A4.st rfl (fun C pre W => ∃ v', Ar w X4 W r yb C v' pre) ?hI ?h0
              (fun x a' W => ∃ q, X4.heap.size + 2 ≤ q ∧ Bq W q x.r ∧ ∃ u : Nat → Value, a' = { tmps := #[.slice (some ⟨g, o, none⟩) K.length c0, undef, ptr w.heap.size, ptr (fm + 1 + 1), ptr yb, .int .i64 (i : Nat), u 6, .int .i64 x.id, ptr q, u 9, .bool true, .bool false, ptr (fm + 1 + 1), .agg #[.slice none 0 0], ptr r, u 15, u 16, u 17, u 18, u 19, u 20, u 21, u 22, u 23, u 24, u 25, u 26, u 27, u 28, u 29, u 30, u 31, u 32, u 33, u 34, u 35, u 36, u 37, u 38, u 39, u 40, u 41, u 42, u 43, u 44, u 45, u 46, u 47, u 48, u 49, u 50, u 51, u 52, u 53, u 54, u 55, u 56, u 57, u 58, u 59, u 60, u 61, u 62, u 63, u 64, u 65, u 66, u 67, u 68, u 69, u 70, u 71, u 72, u 73, u 74, u 75, u 76, u 77, u 78, u 79, .int .i64 x.id, x.r.v, u 82, u 83, u 84, u 85, u 86, u 87, u 88, u 89, u 90, u 91, u 92, u 93, u 94, u 95, u 96, u 97, u 98, u 99, u 100, u 101, u 102, u 103, u 104, u 105, u 106, u 107, u 108, u 109, u 110, u 111, u 112, u 113, u 114, u 115, u 116, undef], defers := [] }) ?hAx ?assign ?body ?done
            case hI =>
              rintro C pre V1 V2 ⟨v', hAr⟩ tt
              exact ⟨v', hAr.inner (by omega) z4 y4 tt⟩
            case h0 =>
              intro W hzW hbW
              have A5 := A4.kept hbW
              exact ⟨_, ⟨A5.rx, fun k e => by simp [Value.ownBlock] at e, A5.bx, A5.yx, Turns.of_below hbW, by omega⟩⟩
            case hAx =>
              rintro x a' V1 V2 ⟨q, hq1, hq2, hq3⟩ tt
              exact ⟨q, hq1, tt.same (by omega) hq2, hq3⟩
            case assign =>
              rintro lo C pre x W K1 ⟨v', hAr⟩ hpre hCW hVC hK1
              gi_wp2
              have hb1 := box1 W (.cells #[.int .i64 x.r.x, .int .i64 x.r.y, .int .i64 x.r.a, .int .i64 x.r.b] 34)
              refine hK1 _ _ (Kr.of_below hb1) ⟨v', hAr.kept hb1⟩ ⟨W.heap.size, by omega, heap_alloc_new W _, ?_⟩
              exact mkU _ _ _ rfl
            case body =>
              rintro lo C pre x a' W hlo ⟨v', hAr⟩ ⟨q, hq, bq, u, rfl⟩ hpre hCW hVC
              dsimp only
              have hxm : x ∈ _ := hpre.subset (List.mem_append_right _ (List.mem_singleton_self x))
              have hpl : pre.length ≤ 256 := by have h1 := hpre.length_le; have h2 := hF.len; simp at h1; omega
              obtain ⟨av, cap1, rfl, hcp, hcm, hat⟩ := hAr.rx.us.form
              gi_wp2_with fail
              gi_loopw [9] (fun d wr => ∃ k : Nat, k ≤ pre.length ∧ d = .int .i64 k ∧ Below W.heap.size W wr) (fun d _ => pre.length - (intOf d).toNat)
              case atStart => exact ⟨0, Nat.zero_le _, rfl, Below.refl _ _⟩
              case round =>
                obtain ⟨k, hk, rfl, hBk⟩ := hrel
                have Ak := hAr.kept hBk
                have bqk := bq.kept hBk
                have cY := Ak.yx.cell
                have cR := Ak.rx.c
                have hkI : (0 : Int) ≤ (k : Nat) ∧ (pre.length : Int) ≤ 256 := by omega
                by_cases hkl : k < pre.length
                · obtain ⟨s, hs⟩ : ∃ s, pre[k]? = some s := ⟨_, List.getElem?_eq_getElem hkl⟩
                  have hsm : s ∈ _ := hpre.subset (List.mem_append_left _ (List.mem_of_getElem? hs))
                  have hki : (k : Int) < (pre.length : Nat) := by omega
                  have hk1 : k ≤ 1000 := by omega
                  obtain ⟨g1, rfl, -, -, -, -, -, -⟩ := hat k s hs
                  have hSR : (fun Z : World => Z.cell? ⟨yb, 0, none⟩ = some (ptr r) ∧ Z.cell? ⟨r, 0, none⟩ = some (.slice (some ⟨g1, 0, none⟩) pre.length cap1) ∧ Z.cell? ⟨q, 0, none⟩ = some (.int .i64 x.r.x) ∧ Z.cell? ⟨q, 1, none⟩ = some (.int .i64 x.r.y) ∧ Z.cell? ⟨q, 2, none⟩ = some (.int .i64 x.r.a) ∧ Z.cell? ⟨q, 3, none⟩ = some (.int .i64 x.r.b)) wr.drew := ⟨cY, cR, bqk.cells.1, bqk.cells.2.1, bqk.cells.2.2.1, bqk.cells.2.2.2⟩
                  have Bb : Hid (Below wr.heap.size wr (wr.drew.alloc (.cells #[.slice (some ⟨g1, k * 5, none⟩) 1 (cap1 - k)] 29))) := hide (bt (Below.refl _ _).drew (box1 wr.drew _))
                  have HSb : Hid ((fun Z : World => Z.cell? ⟨yb, 0, none⟩ = some (ptr r) ∧ Z.cell? ⟨r, 0, none⟩ = some (.slice (some ⟨g1, 0, none⟩) pre.length cap1) ∧ Z.cell? ⟨q, 0, none⟩ = some (.int .i64 x.r.x) ∧ Z.cell? ⟨q, 1, none⟩ = some (.int .i64 x.r.y) ∧ Z.cell? ⟨q, 2, none⟩ = some (.int .i64 x.r.a) ∧ Z.cell? ⟨q, 3, none⟩ = some (.int .i64 x.r.b)) (wr.drew.alloc (.cells #[.slice (some ⟨g1, k * 5, none⟩) 1 (cap1 - k)] 29))) := hide (by
                    have A9 := Ak.kept Bb.out
                    have q9 := (bqk.kept Bb.out).cells
                    exact ⟨A9.yx.cell, A9.rx.c, q9.1, q9.2.1, q9.2.2.1, q9.2.2.2⟩)
                  have hRx := Us.one (Ak.kept Bb.out).rx.us hs rfl (r := wr.drew.heap.size) (c := cap1 - k) (by omega) (cell_of_row _ _ 0 _ _ _ (heap_alloc_new wr.drew _))
                  have HFr := hide (refree_any wr.drew.heap.size (some ⟨g1, k * 5, none⟩) (cap1 - k) [s] x.id x.r.x x.r.y x.r.a x.r.b _ hRx)
                  rw [hF.free hsm hxm] at HFr
                  clear hRx
                  gi_wp2_with fail
                  refine wpIn_only ?_
                  refine wpIn_region_zR (fun Z : World => Z.cell? ⟨yb, 0, none⟩ = some (ptr r) ∧ Z.cell? ⟨r, 0, none⟩ = some (.slice (some ⟨g1, 0, none⟩) pre.length cap1) ∧ Z.cell? ⟨q, 0, none⟩ = some (.int .i64 x.r.x) ∧ Z.cell? ⟨q, 1, none⟩ = some (.int .i64 x.r.y) ∧ Z.cell? ⟨q, 2, none⟩ = some (.int .i64 x.r.a) ∧ Z.cell? ⟨q, 3, none⟩ = some (.int .i64 x.r.b)) 13 only_in (by kernel_rfl) (by kernel_rfl) ?_
                  refine anyZ_take 0 8 (v := ptr r) rfl (by kernel_rfl) (fun _ _ _ h => h.elim) (Or.inl ⟨by rfl, fun wx hx => run_y (by rfl) (by rfl) hx.1⟩) hSR ?_
                  try simp only [Act.put, List.getElem_toArray, List.getElem_cons_zero, List.getElem_cons_succ, List.setIfInBounds_toArray, List.set_cons_zero, List.set_cons_succ]
                  refine anyZ_take 1 8 (v := ptr r) rfl (by kernel_rfl) (fun _ _ _ h => h.elim) (Or.inl ⟨by rfl, fun wx hx => run_nc (by rfl) (by rfl)⟩) hSR ?_
                  try simp only [Act.put, List.getElem_toArray, List.getElem_cons_zero, List.getElem_cons_succ, List.setIfInBounds_toArray, List.set_cons_zero, List.set_cons_succ]
                  refine anyZ_take 2 8 (v := ptr r) rfl (by kernel_rfl) (fun _ _ _ h => h.elim) (Or.inl ⟨by rfl, fun wx hx => run_l (by rfl) (by rfl)⟩) hSR ?_
                  try simp only [Act.put, List.getElem_toArray, List.getElem_cons_zero, List.getElem_cons_succ, List.setIfInBounds_toArray, List.set_cons_zero, List.set_cons_succ]
                  refine anyZ_take 3 8 (v := .slice (some ⟨g1, 0, none⟩) pre.length cap1) rfl (by kernel_rfl) (fun _ _ _ h => h.elim) (Or.inl ⟨by rfl, fun wx hx => run_load (by rfl) (by rfl) hx.2.1⟩) hSR ?_
                  try simp only [Act.put, List.getElem_toArray, List.getElem_cons_zero, List.getElem_cons_succ, List.setIfInBounds_toArray, List.set_cons_zero, List.set_cons_succ]
                  refine anyZ_take 4 8 (v := .int .i64 (k : Nat)) rfl (by kernel_rfl) (fun _ _ _ h => h.elim) (Or.inl ⟨by rfl, fun wx hx => run_mv (by rfl) (by rfl)⟩) hSR ?_
                  try simp only [Act.put, List.getElem_toArray, List.getElem_cons_zero, List.getElem_cons_succ, List.setIfInBounds_toArray, List.set_cons_zero, List.set_cons_succ]
                  refine anyZ_take 5 8 (v := .int .i64 (k : Nat)) rfl (by kernel_rfl) (fun _ _ _ h => h.elim) (Or.inl ⟨by rfl, fun wx hx => run_mv (by rfl) (by rfl)⟩) hSR ?_
                  try simp only [Act.put, List.getElem_toArray, List.getElem_cons_zero, List.getElem_cons_succ, List.setIfInBounds_toArray, List.set_cons_zero, List.set_cons_succ]
                  refine anyZ_take 6 8 (v := .int .i64 ((k : Int) + 1)) rfl (by kernel_rfl) (fun _ _ _ h => h.elim) (Or.inl ⟨by rfl, fun wx hx => run_next (by rfl) (by rfl) (by rfl) hk1⟩) hSR ?_
                  try simp only [Act.put, List.getElem_toArray, List.getElem_cons_zero, List.getElem_cons_succ, List.setIfInBounds_toArray, List.set_cons_zero, List.set_cons_succ]
                  refine anyZ_take 7 8 (v := .slice (some ⟨g1, k * 5, none⟩) 1 (cap1 - k)) rfl (by kernel_rfl) (fun _ _ _ h => h.elim) (Or.inl ⟨by rfl, fun wx hx => run_part (by rfl) (by rfl) (by rfl) (by rfl) hkl hcp hcm⟩) hSR ?_
                  try simp only [Act.put, List.getElem_toArray, List.getElem_cons_zero, List.getElem_cons_succ, List.setIfInBounds_toArray, List.set_cons_zero, List.set_cons_succ]
                  refine anyZ_take 8 8 (v := .agg #[.slice (some ⟨g1, k * 5, none⟩) 1 (cap1 - k)]) rfl (by kernel_rfl) (fun _ _ _ h => h.elim) (Or.inl ⟨by rfl, fun wx hx => run_ix (by rfl) (by rfl)⟩) hSR ?_
                  try simp only [Act.put, List.getElem_toArray, List.getElem_cons_zero, List.getElem_cons_succ, List.setIfInBounds_toArray, List.set_cons_zero, List.set_cons_succ]
                  refine anyZ_take 10 8 (v := rct x.r.x x.r.y x.r.a x.r.b) rfl (by kernel_rfl) (fun _ _ _ h => h.elim) (Or.inl ⟨by rfl, fun wx hx => run_rO (by rfl) (by rfl) hx.2.2.1 hx.2.2.2.1 hx.2.2.2.2.1 hx.2.2.2.2.2⟩) hSR ?_
                  try simp only [Act.put, List.getElem_toArray, List.getElem_cons_zero, List.getElem_cons_succ, List.setIfInBounds_toArray, List.set_cons_zero, List.set_cons_succ]
                  refine anyZ_take 11 8 (v := .int .i64 x.id) rfl (by kernel_rfl) (fun _ _ _ h => h.elim) (Or.inl ⟨by rfl, fun wx hx => run_mv (by rfl) (by rfl)⟩) hSR ?_
                  try simp only [Act.put, List.getElem_toArray, List.getElem_cons_zero, List.getElem_cons_succ, List.setIfInBounds_toArray, List.set_cons_zero, List.set_cons_succ]
                  refine anyZ_ready (rs := [9]) (by kernel_rfl) (by simp) ?_
                  refine readyZ.cons rfl rfl (run_bx (by rfl) (by rfl)) (fun _ => HSb.out) ?_ readyZ.nil
                  try simp only [Act.put, List.getElem_toArray, List.getElem_cons_zero, List.getElem_cons_succ, List.setIfInBounds_toArray, List.set_cons_zero, List.set_cons_succ]
                  refine anyZ_ready (rs := [12]) (by kernel_rfl) (by simp) ?_
                  refine readyZ.call rfl rfl (run_call21 (by rfl) (by rfl) (by simp only [List.map_toArray, List.map_cons, List.map_nil]; rfl)) HFr.out ?_ readyZ.nil
                  rintro e W4 ⟨rfl, hb4⟩
                  have Ak4 := Ak.kept (bt Bb.out hb4)
                  have bq4 := (bqk.kept Bb.out).kept hb4
                  refine ⟨_, rfl, fun _ => ⟨Ak4.yx.cell, Ak4.rx.c, bq4.cells.1, bq4.cells.2.1, bq4.cells.2.2.1, bq4.cells.2.2.2⟩, ?_⟩
                  try simp only [Act.put, List.getElem_toArray, List.getElem_cons_zero, List.getElem_cons_succ, List.setIfInBounds_toArray, List.set_cons_zero, List.set_cons_succ]
                  refine anyZ_ready (rs := [13]) (by kernel_rfl) (by simp) ?_
                  refine readyZ.cons rfl rfl (run_not (b := true) (by rfl) (by rfl)) (fun h => absurd rfl h) ?_ readyZ.nil
                  try simp only [Act.put, List.getElem_toArray, List.getElem_cons_zero, List.getElem_cons_succ, List.setIfInBounds_toArray, List.set_cons_zero, List.set_cons_succ]
                  refine anyZ_done (by kernel_rfl) ?_ _
                  dsimp only [Only, Bool.not_true]
                  have HB4 := hide (bt hBk (bt Bb.out hb4))
                  clear Ak4 bq4 hb4 HSb HFr hSR Bb
                  gi_wp2_with fail
                  go_roundw
                  case rel => exact ⟨k + 1, by omega, by go_num, HB4.out⟩
                  case measure => simp [intOf]; omega
                · obtain rfl : k = pre.length := by omega
                  have hki : ¬ ((pre.length : Nat) : Int) < (pre.length : Nat) := by omega
                  have hSR : (fun Z : World => Z.cell? ⟨yb, 0, none⟩ = some (ptr r) ∧ Z.cell? ⟨r, 0, none⟩ = some (.slice av pre.length cap1) ∧ Z.cell? ⟨q, 0, none⟩ = some (.int .i64 x.r.x) ∧ Z.cell? ⟨q, 1, none⟩ = some (.int .i64 x.r.y) ∧ Z.cell? ⟨q, 2, none⟩ = some (.int .i64 x.r.a) ∧ Z.cell? ⟨q, 3, none⟩ = some (.int .i64 x.r.b)) wr.drew := ⟨cY, cR, bqk.cells.1, bqk.cells.2.1, bqk.cells.2.2.1, bqk.cells.2.2.2⟩
                  have Bb := box1 wr.drew (.cells #[.int .i64 x.id, .int .i64 x.r.x, .int .i64 x.r.y, .int .i64 x.r.a, .int .i64 x.r.b] 58)
                  have Akd := Ak.kept (Below.refl _ _).drew
                  have bqd := bqk.kept (Below.refl _ _).drew
                  have hBs := hBk.size
                  obtain ⟨v2, W2, rA, c1, hfr, c3, bq2, hv2, hKr, hAr2⟩ := Akd.push (show C ≤ wr.drew.heap.size from Nat.le_trans hCW hBs) x (by omega) (by omega) z4 y4 (by omega) (by omega) bqd
                  have HSb : Hid ((fun Z : World => Z.cell? ⟨yb, 0, none⟩ = some (ptr r) ∧ Z.cell? ⟨r, 0, none⟩ = some (.slice av pre.length cap1) ∧ Z.cell? ⟨q, 0, none⟩ = some (.int .i64 x.r.x) ∧ Z.cell? ⟨q, 1, none⟩ = some (.int .i64 x.r.y) ∧ Z.cell? ⟨q, 2, none⟩ = some (.int .i64 x.r.a) ∧ Z.cell? ⟨q, 3, none⟩ = some (.int .i64 x.r.b)) (wr.drew.alloc (.cells #[.int .i64 x.id, .int .i64 x.r.x, .int .i64 x.r.y, .int .i64 x.r.a, .int .i64 x.r.b] 58))) := hide (by
                    have A9 := Akd.kept Bb
                    have q9 := (bqd.kept Bb).cells
                    exact ⟨A9.yx.cell, A9.rx.c, q9.1, q9.2.1, q9.2.2.1, q9.2.2.2⟩)
                  have HSc : Hid ((fun Z : World => Z.cell? ⟨yb, 0, none⟩ = some (ptr r) ∧ Z.cell? ⟨r, 0, none⟩ = some (.slice av pre.length cap1) ∧ Z.cell? ⟨q, 0, none⟩ = some (.int .i64 x.r.x) ∧ Z.cell? ⟨q, 1, none⟩ = some (.int .i64 x.r.y) ∧ Z.cell? ⟨q, 2, none⟩ = some (.int .i64 x.r.a) ∧ Z.cell? ⟨q, 3, none⟩ = some (.int .i64 x.r.b)) W2) := hide ⟨c3, c1, bq2.cells.1, bq2.cells.2.1, bq2.cells.2.2.1, bq2.cells.2.2.2⟩
                  have HAp := hide rA
                  have HEn := hide (show Kr X4.heap.size C W (W2.setCell ⟨r, 0, none⟩ v2) ∧ ∃ v', Ar w X4 (W2.setCell ⟨r, 0, none⟩ v2) r yb C v' (pre ++ [x]) from ⟨(Kr.of_below hBk.drew).trans hKr, _, hAr2⟩)
                  clear rA c1 c3 bq2 hKr hAr2 Akd bqd Bb
                  gi_wp2_with fail
                  refine wpIn_only ?_
                  refine wpIn_region_zR (fun Z : World => Z.cell? ⟨yb, 0, none⟩ = some (ptr r) ∧ Z.cell? ⟨r, 0, none⟩ = some (.slice av pre.length cap1) ∧ Z.cell? ⟨q, 0, none⟩ = some (.int .i64 x.r.x) ∧ Z.cell? ⟨q, 1, none⟩ = some (.int .i64 x.r.y) ∧ Z.cell? ⟨q, 2, none⟩ = some (.int .i64 x.r.a) ∧ Z.cell? ⟨q, 3, none⟩ = some (.int .i64 x.r.b)) 12 only_in (by kernel_rfl) (by kernel_rfl) ?_
                  refine anyZ_take 0 8 (v := ptr r) rfl (by kernel_rfl) (fun _ _ _ h => h.elim) (Or.inl ⟨by rfl, fun wx hx => run_y (by rfl) (by rfl) hx.1⟩) hSR ?_
                  try simp only [Act.put, List.getElem_toArray, List.getElem_cons_zero, List.getElem_cons_succ, List.setIfInBounds_toArray, List.set_cons_zero, List.set_cons_succ]
                  refine anyZ_take 1 8 (v := ptr r) rfl (by kernel_rfl) (fun _ _ _ h => h.elim) (Or.inl ⟨by rfl, fun wx hx => run_y (by rfl) (by rfl) hx.1⟩) hSR ?_
                  try simp only [Act.put, List.getElem_toArray, List.getElem_cons_zero, List.getElem_cons_succ, List.setIfInBounds_toArray, List.set_cons_zero, List.set_cons_succ]
                  refine anyZ_take 2 8 (v := ptr r) rfl (by kernel_rfl) (fun _ _ _ h => h.elim) (Or.inl ⟨by rfl, fun wx hx => run_nc (by rfl) (by rfl)⟩) hSR ?_
                  try simp only [Act.put, List.getElem_toArray, List.getElem_cons_zero, List.getElem_cons_succ, List.setIfInBounds_toArray, List.set_cons_zero, List.set_cons_succ]
                  refine anyZ_take 3 8 (v := ptr r) rfl (by kernel_rfl) (fun _ _ _ h => h.elim) (Or.inl ⟨by rfl, fun wx hx => run_l (by rfl) (by rfl)⟩) hSR ?_
                  try simp only [Act.put, List.getElem_toArray, List.getElem_cons_zero, List.getElem_cons_succ, List.setIfInBounds_toArray, List.set_cons_zero, List.set_cons_succ]
                  refine anyZ_take 4 8 (v := .slice av pre.length cap1) rfl (by kernel_rfl) (fun _ _ _ h => h.elim) (Or.inl ⟨by rfl, fun wx hx => run_load (by rfl) (by rfl) hx.2.1⟩) hSR ?_
                  try simp only [Act.put, List.getElem_toArray, List.getElem_cons_zero, List.getElem_cons_succ, List.setIfInBounds_toArray, List.set_cons_zero, List.set_cons_succ]
                  refine anyZ_take 5 8 (v := .int .i64 x.id) rfl (by kernel_rfl) (fun _ _ _ h => h.elim) (Or.inl ⟨by rfl, fun wx hx => run_mv (by rfl) (by rfl)⟩) hSR ?_
                  try simp only [Act.put, List.getElem_toArray, List.getElem_cons_zero, List.getElem_cons_succ, List.setIfInBounds_toArray, List.set_cons_zero, List.set_cons_succ]
                  refine anyZ_take 6 8 (v := rct x.r.x x.r.y x.r.a x.r.b) rfl (by kernel_rfl) (fun _ _ _ h => h.elim) (Or.inl ⟨by rfl, fun wx hx => run_rO (by rfl) (by rfl) hx.2.2.1 hx.2.2.2.1 hx.2.2.2.2.1 hx.2.2.2.2.2⟩) hSR ?_
                  try simp only [Act.put, List.getElem_toArray, List.getElem_cons_zero, List.getElem_cons_succ, List.setIfInBounds_toArray, List.set_cons_zero, List.set_cons_succ]
                  refine anyZ_take 7 8 (v := .agg #[.int .i64 x.id, .int .i64 x.r.x, .int .i64 x.r.y, .int .i64 x.r.a, .int .i64 x.r.b]) rfl (by kernel_rfl) (fun _ _ _ h => h.elim) (Or.inl ⟨by rfl, fun wx hx => run_unit (by rfl) (by rfl) (by rfl)⟩) hSR ?_
                  try simp only [Act.put, List.getElem_toArray, List.getElem_cons_zero, List.getElem_cons_succ, List.setIfInBounds_toArray, List.set_cons_zero, List.set_cons_succ]
                  refine anyZ_ready (rs := [8]) (by kernel_rfl) (by simp) ?_
                  refine readyZ.cons rfl rfl (run_single (by rfl) (by rfl)) (fun _ => HSb.out) ?_ readyZ.nil
                  try simp only [Act.put, List.getElem_toArray, List.getElem_cons_zero, List.getElem_cons_succ, List.setIfInBounds_toArray, List.set_cons_zero, List.set_cons_succ]
                  refine anyZ_ready (rs := [9]) (by kernel_rfl) (by simp) ?_
                  refine readyZ.cons rfl rfl (run_append (by rfl) (by rfl) (by rfl) HAp.out) (fun _ => HSc.out) ?_ readyZ.nil
                  try simp only [Act.put, List.getElem_toArray, List.getElem_cons_zero, List.getElem_cons_succ, List.setIfInBounds_toArray, List.set_cons_zero, List.set_cons_succ]
                  refine anyZ_take 10 8 (v := ptr r) rfl (by kernel_rfl) (fun _ _ _ h => h.elim) (Or.inl ⟨by rfl, fun wx hx => run_nc (by rfl) (by rfl)⟩) HSc.out ?_
                  try simp only [Act.put, List.getElem_toArray, List.getElem_cons_zero, List.getElem_cons_succ, List.setIfInBounds_toArray, List.set_cons_zero, List.set_cons_succ]
                  refine anyZ_take 11 8 (v := ptr r) rfl (by kernel_rfl) (fun _ _ _ h => h.elim) (Or.inl ⟨by rfl, fun wx hx => run_l (by rfl) (by rfl)⟩) HSc.out ?_
                  try simp only [Act.put, List.getElem_toArray, List.getElem_cons_zero, List.getElem_cons_succ, List.setIfInBounds_toArray, List.set_cons_zero, List.set_cons_succ]
                  refine anyZ_ready (rs := [12]) (by kernel_rfl) (by simp) ?_
                  refine readyZ.skip rfl rfl (run_store (by rfl) (by rfl) (by rfl) hv2 HSc.out.2.1 hfr) (fun h => absurd rfl h) ?_ readyZ.nil
                  try simp only [Act.put, List.getElem_toArray, List.getElem_cons_zero, List.getElem_cons_succ, List.setIfInBounds_toArray, List.set_cons_zero, List.set_cons_succ]
                  refine anyZ_done (by kernel_rfl) ?_ _
                  dsimp only [Only]
                  exact HEn.out
            case done =>
              rintro D C W hD ⟨v', hAr⟩ hK
              have A5 := A4.range hAr hD hK
              gi_wp2_with fail
              exact ⟨⟨i + 1, _, v', _, D :: Ds, A5, by omega, by omega, by omega, mkU _ _ _ rfl⟩, by simp [intOf]; omega⟩
          · have hcb : (c == 0) = false := by simpa using hc0
            have hcd : decide (c = 0) = false := by simpa using hc0
            have hll := hz hc0
            subst hll
            have cY := A1.yx.cell
            clear hz hA
            gi_wp2_with fail
            refine ⟨trivial, ?_⟩
            refine (callsIn_wide.2 (same_yes _ _ _ _ _ _ _ _ A1.st A1.rx)).mono ?_
            rintro e X2 ⟨rfl, hb2⟩
            have A2 := A1.kept hb2
            have cY2 := A2.yx.cell
            have cR := A2.rx.c
            have fR := Boxed.frozen A2.rx.blk
            have HA2 := hide A2.clear
            clear A1 A2 cY hb2
            gi_wp2_with fail
            obtain ⟨Y, hY⟩ : ∃ Y, X2.setCell ⟨r, 0, none⟩ (.slice none 0 0) = Y := ⟨_, rfl⟩
            rw [hY] at HA2 ⊢
            clear hY cR fR
            refine ⟨trivial, ?_⟩
            refine (callsIn_wide.2 (all_is _ _)).mono ?_
            rintro e X4 ⟨rfl, hX4⟩
            have A4 := HA2.out.kept (show Below Y.heap.size Y X4 from hX4 ▸ box1 _ _)
            have m3 : Boxed X4 Y.heap.size 24 (ptr (fm + 1 + 1)) := by rw [hX4]; exact Boxed.new _ _ _
            have hF := A4.st.fine
            have z4 := A4.yx.lt
            have y4 := A4.bx.lt
            obtain ⟨cb, hcb⟩ : ∃ cb, Y.heap.size = cb := ⟨_, rfl⟩
            rw [hcb] at m3 ⊢
            clear hX4 HA2 hcb
            gi_wp2_with fail
            refine range_all (by omega) (c := cb) (p := fm + 1 + 1) rfl m3 A4.st rfl (fun C pre W => ∃ v', Ar w X4 W r yb C v' pre) ?hI ?h0
              (fun x a' W => ∃ q, X4.heap.size + 2 ≤ q ∧ Bq W q x.r ∧ ∃ u : Nat → Value, a' = { tmps := #[.slice (some ⟨g, o, none⟩) K.length c0, undef, ptr w.heap.size, ptr (fm + 1 + 1), ptr yb, .int .i64 (i : Nat), u 6, .int .i64 x.id, ptr q, u 9, .bool true, .bool false, ptr (fm + 1 + 1), .agg #[.slice none 0 0], ptr r, u 15, u 16, u 17, u 18, u 19, u 20, u 21, u 22, u 23, u 24, u 25, u 26, u 27, u 28, u 29, u 30, u 31, u 32, u 33, u 34, u 35, u 36, u 37, u 38, u 39, u 40, u 41, u 42, u 43, u 44, u 45, u 46, u 47, u 48, u 49, u 50, u 51, u 52, u 53, u 54, u 55, u 56, u 57, u 58, u 59, u 60, u 61, u 62, u 63, u 64, u 65, u 66, u 67, u 68, u 69, u 70, u 71, u 72, u 73, u 74, u 75, u 76, u 77, u 78, u 79, .int .i64 x.id, x.r.v, u 82, u 83, u 84, u 85, u 86, u 87, u 88, u 89, u 90, u 91, u 92, u 93, u 94, u 95, u 96, u 97, u 98, u 99, u 100, u 101, u 102, u 103, u 104, u 105, u 106, u 107, u 108, u 109, u 110, u 111, u 112, u 113, u 114, u 115, u 116, undef], defers := [] }) ?hAx ?assign ?body ?done
            case hI =>
              rintro C pre V1 V2 ⟨v', hAr⟩ tt
              exact ⟨v', hAr.inner (by omega) z4 y4 tt⟩
            case h0 =>
              intro W hzW hbW
              have A5 := A4.kept hbW
              exact ⟨_, ⟨A5.rx, fun k e => by simp [Value.ownBlock] at e, A5.bx, A5.yx, Turns.of_below hbW, by omega⟩⟩
            case hAx =>
              rintro x a' V1 V2 ⟨q, hq1, hq2, hq3⟩ tt
              exact ⟨q, hq1, tt.same (by omega) hq2, hq3⟩
            case assign =>
              rintro lo C pre x W K1 ⟨v', hAr⟩ hpre hCW hVC hK1
              gi_wp2
              have hb1 := box1 W (.cells #[.int .i64 x.r.x, .int .i64 x.r.y, .int .i64 x.r.a, .int .i64 x.r.b] 34)
              refine hK1 _ _ (Kr.of_below hb1) ⟨v', hAr.kept hb1⟩ ⟨W.heap.size, by omega, heap_alloc_new W _, ?_⟩
              exact mkU _ _ _ rfl
            case body =>
              rintro lo C pre x a' W hlo ⟨v', hAr⟩ ⟨q, hq, bq, u, rfl⟩ hpre hCW hVC
              dsimp only
              have hxm : x ∈ _ := hpre.subset (List.mem_append_right _ (List.mem_singleton_self x))
              have hpl : pre.length ≤ 256 := by have h1 := hpre.length_le; have h2 := hF.len; simp at h1; omega
              obtain ⟨av, cap1, rfl, hcp, hcm, hat⟩ := hAr.rx.us.form
              gi_wp2_with fail
              gi_loopw [9] (fun d wr => ∃ k : Nat, k ≤ pre.length ∧ d = .int .i64 k ∧ Below W.heap.size W wr) (fun d _ => pre.length - (intOf d).toNat)
              case atStart => exact ⟨0, Nat.zero_le _, rfl, Below.refl _ _⟩
              case round =>
                obtain ⟨k, hk, rfl, hBk⟩ := hrel
                have Ak := hAr.kept hBk
                have bqk := bq.kept hBk
                have cY := Ak.yx.cell
                have cR := Ak.rx.c
                have hkI : (0 : Int) ≤ (k : Nat) ∧ (pre.length : Int) ≤ 256 := by omega
                by_cases hkl : k < pre.length
                · obtain ⟨s, hs⟩ : ∃ s, pre[k]? = some s := ⟨_, List.getElem?_eq_getElem hkl⟩
                  have hsm : s ∈ _ := hpre.subset (List.mem_append_left _ (List.mem_of_getElem? hs))
                  have hki : (k : Int) < (pre.length : Nat) := by omega
                  have hk1 : k ≤ 1000 := by omega
                  obtain ⟨g1, rfl, -, -, -, -, -, -⟩ := hat k s hs
                  have hSR : (fun Z : World => Z.cell? ⟨yb, 0, none⟩ = some (ptr r) ∧ Z.cell? ⟨r, 0, none⟩ = some (.slice (some ⟨g1, 0, none⟩) pre.length cap1) ∧ Z.cell? ⟨q, 0, none⟩ = some (.int .i64 x.r.x) ∧ Z.cell? ⟨q, 1, none⟩ = some (.int .i64 x.r.y) ∧ Z.cell? ⟨q, 2, none⟩ = some (.int .i64 x.r.a) ∧ Z.cell? ⟨q, 3, none⟩ = some (.int .i64 x.r.b)) wr.drew := ⟨cY, cR, bqk.cells.1, bqk.cells.2.1, bqk.cells.2.2.1, bqk.cells.2.2.2⟩
                  have Bb : Hid (Below wr.heap.size wr (wr.drew.alloc (.cells #[.slice (some ⟨g1, k * 5, none⟩) 1 (cap1 - k)] 29))) := hide (bt (Below.refl _ _).drew (box1 wr.drew _))
                  have HSb : Hid ((fun Z : World => Z.cell? ⟨yb, 0, none⟩ = some (ptr r) ∧ Z.cell? ⟨r, 0, none⟩ = some (.slice (some ⟨g1, 0, none⟩) pre.length cap1) ∧ Z.cell? ⟨q, 0, none⟩ = some (.int .i64 x.r.x) ∧ Z.cell? ⟨q, 1, none⟩ = some (.int .i64 x.r.y) ∧ Z.cell? ⟨q, 2, none⟩ = some (.int .i64 x.r.a) ∧ Z.cell? ⟨q, 3, none⟩ = some (.int .i64 x.r.b)) (wr.drew.alloc (.cells #[.slice (some ⟨g1, k * 5, none⟩) 1 (cap1 - k)] 29))) := hide (by
                    have A9 := Ak.kept Bb.out
                    have q9 := (bqk.kept Bb.out).cells
                    exact ⟨A9.yx.cell, A9.rx.c, q9.1, q9.2.1, q9.2.2.1, q9.2.2.2⟩)
                  have hRx := Us.one (Ak.kept Bb.out).rx.us hs rfl (r := wr.drew.heap.size) (c := cap1 - k) (by omega) (cell_of_row _ _ 0 _ _ _ (heap_alloc_new wr.drew _))
                  have HFr := hide (refree_any wr.drew.heap.size (some ⟨g1, k * 5, none⟩) (cap1 - k) [s] x.id x.r.x x.r.y x.r.a x.r.b _ hRx)
                  rw [hF.free hsm hxm] at HFr
                  clear hRx
                  gi_wp2_with fail
                  refine wpIn_only ?_
                  refine wpIn_region_zR (fun Z : World => Z.cell? ⟨yb, 0, none⟩ = some (ptr r) ∧ Z.cell? ⟨r, 0, none⟩ = some (.slice (some ⟨g1, 0, none⟩) pre.length cap1) ∧ Z.cell? ⟨q, 0, none⟩ = some (.int .i64 x.r.x) ∧ Z.cell? ⟨q, 1, none⟩ = some (.int .i64 x.r.y) ∧ Z.cell? ⟨q, 2, none⟩ = some (.int .i64 x.r.a) ∧ Z.cell? ⟨q, 3, none⟩ = some (.int .i64 x.r.b)) 13 only_in (by kernel_rfl) (by kernel_rfl) ?_
                  refine anyZ_take 0 8 (v := ptr r) rfl (by kernel_rfl) (fun _ _ _ h => h.elim) (Or.inl ⟨by rfl, fun wx hx => run_y (by rfl) (by rfl) hx.1⟩) hSR ?_
                  try simp only [Act.put, List.getElem_toArray, List.getElem_cons_zero, List.getElem_cons_succ, List.setIfInBounds_toArray, List.set_cons_zero, List.set_cons_succ]
                  refine anyZ_take 1 8 (v := ptr r) rfl (by kernel_rfl) (fun _ _ _ h => h.elim) (Or.inl ⟨by rfl, fun wx hx => run_nc (by rfl) (by rfl)⟩) hSR ?_
                  try simp only [Act.put, List.getElem_toArray, List.getElem_cons_zero, List.getElem_cons_succ, List.setIfInBounds_toArray, List.set_cons_zero, List.set_cons_succ]
                  refine anyZ_take 2 8 (v := ptr r) rfl (by kernel_rfl) (fun _ _ _ h => h.elim) (Or.inl ⟨by rfl, fun wx hx => run_l (by rfl) (by rfl)⟩) hSR ?_
                  try simp only [Act.put, List.getElem_toArray, List.getElem_cons_zero, List.getElem_cons_succ, List.setIfInBounds_toArray, List.set_cons_zero, List.set_cons_succ]
                  refine anyZ_take 3 8 (v := .slice (some ⟨g1, 0, none⟩) pre.length cap1) rfl (by kernel_rfl) (fun _ _ _ h => h.elim) (Or.inl ⟨by rfl, fun wx hx => run_load (by rfl) (by rfl) hx.2.1⟩) hSR ?_
                  try simp only [Act.put, List.getElem_toArray, List.getElem_cons_zero, List.getElem_cons_succ, List.setIfInBounds_toArray, List.set_cons_zero, List.set_cons_succ]
                  refine anyZ_take 4 8 (v := .int .i64 (k : Nat)) rfl (by kernel_rfl) (fun _ _ _ h => h.elim) (Or.inl ⟨by rfl, fun wx hx => run_mv (by rfl) (by rfl)⟩) hSR ?_
                  try simp only [Act.put, List.getElem_toArray, List.getElem_cons_zero, List.getElem_cons_succ, List.setIfInBounds_toArray, List.set_cons_zero, List.set_cons_succ]
                  refine anyZ_take 5 8 (v := .int .i64 (k : Nat)) rfl (by kernel_rfl) (fun _ _ _ h => h.elim) (Or.inl ⟨by rfl, fun wx hx => run_mv (by rfl) (by rfl)⟩) hSR ?_
                  try simp only [Act.put, List.getElem_toArray, List.getElem_cons_zero, List.getElem_cons_succ, List.setIfInBounds_toArray, List.set_cons_zero, List.set_cons_succ]
                  refine anyZ_take 6 8 (v := .int .i64 ((k : Int) + 1)) rfl (by kernel_rfl) (fun _ _ _ h => h.elim) (Or.inl ⟨by rfl, fun wx hx => run_next (by rfl) (by rfl) (by rfl) hk1⟩) hSR ?_
                  try simp only [Act.put, List.getElem_toArray, List.getElem_cons_zero, List.getElem_cons_succ, List.setIfInBounds_toArray, List.set_cons_zero, List.set_cons_succ]
                  refine anyZ_take 7 8 (v := .slice (some ⟨g1, k * 5, none⟩) 1 (cap1 - k)) rfl (by kernel_rfl) (fun _ _ _ h => h.elim) (Or.inl ⟨by rfl, fun wx hx => run_part (by rfl) (by rfl) (by rfl) (by rfl) hkl hcp hcm⟩) hSR ?_
                  try simp only [Act.put, List.getElem_toArray, List.getElem_cons_zero, List.getElem_cons_succ, List.setIfInBounds_toArray, List.set_cons_zero, List.set_cons_succ]
                  refine anyZ_take 8 8 (v := .agg #[.slice (some ⟨g1, k * 5, none⟩) 1 (cap1 - k)]) rfl (by kernel_rfl) (fun _ _ _ h => h.elim) (Or.inl ⟨by rfl, fun wx hx => run_ix (by rfl) (by rfl)⟩) hSR ?_
                  try simp only [Act.put, List.getElem_toArray, List.getElem_cons_zero, List.getElem_cons_succ, List.setIfInBounds_toArray, List.set_cons_zero, List.set_cons_succ]
                  refine anyZ_take 10 8 (v := rct x.r.x x.r.y x.r.a x.r.b) rfl (by kernel_rfl) (fun _ _ _ h => h.elim) (Or.inl ⟨by rfl, fun wx hx => run_rO (by rfl) (by rfl) hx.2.2.1 hx.2.2.2.1 hx.2.2.2.2.1 hx.2.2.2.2.2⟩) hSR ?_
                  try simp only [Act.put, List.getElem_toArray, List.getElem_cons_zero, List.getElem_cons_succ, List.setIfInBounds_toArray, List.set_cons_zero, List.set_cons_succ]
                  refine anyZ_take 11 8 (v := .int .i64 x.id) rfl (by kernel_rfl) (fun _ _ _ h => h.elim) (Or.inl ⟨by rfl, fun wx hx => run_mv (by rfl) (by rfl)⟩) hSR ?_
                  try simp only [Act.put, List.getElem_toArray, List.getElem_cons_zero, List.getElem_cons_succ, List.setIfInBounds_toArray, List.set_cons_zero, List.set_cons_succ]
                  refine anyZ_ready (rs := [9]) (by kernel_rfl) (by simp) ?_
                  refine readyZ.cons rfl rfl (run_bx (by rfl) (by rfl)) (fun _ => HSb.out) ?_ readyZ.nil
                  try simp only [Act.put, List.getElem_toArray, List.getElem_cons_zero, List.getElem_cons_succ, List.setIfInBounds_toArray, List.set_cons_zero, List.set_cons_succ]
                  refine anyZ_ready (rs := [12]) (by kernel_rfl) (by simp) ?_
                  refine readyZ.call rfl rfl (run_call21 (by rfl) (by rfl) (by simp only [List.map_toArray, List.map_cons, List.map_nil]; rfl)) HFr.out ?_ readyZ.nil
                  rintro e W4 ⟨rfl, hb4⟩
                  have Ak4 := Ak.kept (bt Bb.out hb4)
                  have bq4 := (bqk.kept Bb.out).kept hb4
                  refine ⟨_, rfl, fun _ => ⟨Ak4.yx.cell, Ak4.rx.c, bq4.cells.1, bq4.cells.2.1, bq4.cells.2.2.1, bq4.cells.2.2.2⟩, ?_⟩
                  try simp only [Act.put, List.getElem_toArray, List.getElem_cons_zero, List.getElem_cons_succ, List.setIfInBounds_toArray, List.set_cons_zero, List.set_cons_succ]
                  refine anyZ_ready (rs := [13]) (by kernel_rfl) (by simp) ?_
                  refine readyZ.cons rfl rfl (run_not (b := true) (by rfl) (by rfl)) (fun h => absurd rfl h) ?_ readyZ.nil
                  try simp only [Act.put, List.getElem_toArray, List.getElem_cons_zero, List.getElem_cons_succ, List.setIfInBounds_toArray, List.set_cons_zero, List.set_cons_succ]
                  refine anyZ_done (by kernel_rfl) ?_ _
                  dsimp only [Only, Bool.not_true]
                  have HB4 := hide (bt hBk (bt Bb.out hb4))
                  clear Ak4 bq4 hb4 HSb HFr hSR Bb
                  gi_wp2_with fail
                  go_roundw
                  case rel => exact ⟨k + 1, by omega, by go_num, HB4.out⟩
                  case measure => simp [intOf]; omega
                · obtain rfl : k = pre.length := by omega
                  have hki : ¬ ((pre.length : Nat) : Int) < (pre.length : Nat) := by omega
                  have hSR : (fun Z : World => Z.cell? ⟨yb, 0, none⟩ = some (ptr r) ∧ Z.cell? ⟨r, 0, none⟩ = some (.slice av pre.length cap1) ∧ Z.cell? ⟨q, 0, none⟩ = some (.int .i64 x.r.x) ∧ Z.cell? ⟨q, 1, none⟩ = some (.int .i64 x.r.y) ∧ Z.cell? ⟨q, 2, none⟩ = some (.int .i64 x.r.a) ∧ Z.cell? ⟨q, 3, none⟩ = some (.int .i64 x.r.b)) wr.drew := ⟨cY, cR, bqk.cells.1, bqk.cells.2.1, bqk.cells.2.2.1, bqk.cells.2.2.2⟩
                  have Bb := box1 wr.drew (.cells #[.int .i64 x.id, .int .i64 x.r.x, .int .i64 x.r.y, .int .i64 x.r.a, .int .i64 x.r.b] 58)
                  have Akd := Ak.kept (Below.refl _ _).drew
                  have bqd := bqk.kept (Below.refl _ _).drew
                  have hBs := hBk.size
                  obtain ⟨v2, W2, rA, c1, hfr, c3, bq2, hv2, hKr, hAr2⟩ := Akd.push (show C ≤ wr.drew.heap.size from Nat.le_trans hCW hBs) x (by omega) (by omega) z4 y4 (by omega) (by omega) bqd
                  have HSb : Hid ((fun Z : World => Z.cell? ⟨yb, 0, none⟩ = some (ptr r) ∧ Z.cell? ⟨r, 0, none⟩ = some (.slice av pre.length cap1) ∧ Z.cell? ⟨q, 0, none⟩ = some (.int .i64 x.r.x) ∧ Z.cell? ⟨q, 1, none⟩ = some (.int .i64 x.r.y) ∧ Z.cell? ⟨q, 2, none⟩ = some (.int .i64 x.r.a) ∧ Z.cell? ⟨q, 3, none⟩ = some (.int .i64 x.r.b)) (wr.drew.alloc (.cells #[.int .i64 x.id, .int .i64 x.r.x, .int .i64 x.r.y, .int .i64 x.r.a, .int .i64 x.r.b] 58))) := hide (by
                    have A9 := Akd.kept Bb
                    have q9 := (bqd.kept Bb).cells
                    exact ⟨A9.yx.cell, A9.rx.c, q9.1, q9.2.1, q9.2.2.1, q9.2.2.2⟩)
                  have HSc : Hid ((fun Z : World => Z.cell? ⟨yb, 0, none⟩ = some (ptr r) ∧ Z.cell? ⟨r, 0, none⟩ = some (.slice av pre.length cap1) ∧ Z.cell? ⟨q, 0, none⟩ = some (.int .i64 x.r.x) ∧ Z.cell? ⟨q, 1, none⟩ = some (.int .i64 x.r.y) ∧ Z.cell? ⟨q, 2, none⟩ = some (.int .i64 x.r.a) ∧ Z.cell? ⟨q, 3, none⟩ = some (.int .i64 x.r.b)) W2) := hide ⟨c3, c1, bq2.cells.1, bq2.cells.2.1, bq2.cells.2.2.1, bq2.cells.2.2.2⟩
                  have HAp := hide rA
                  have HEn := hide (show Kr X4.heap.size C W (W2.setCell ⟨r, 0, none⟩ v2) ∧ ∃ v', Ar w X4 (W2.setCell ⟨r, 0, none⟩ v2) r yb C v' (pre ++ [x]) from ⟨(Kr.of_below hBk.drew).trans hKr, _, hAr2⟩)
                  clear rA c1 c3 bq2 hKr hAr2 Akd bqd Bb
                  gi_wp2_with fail
                  refine wpIn_only ?_
                  refine wpIn_region_zR (fun Z : World => Z.cell? ⟨yb, 0, none⟩ = some (ptr r) ∧ Z.cell? ⟨r, 0, none⟩ = some (.slice av pre.length cap1) ∧ Z.cell? ⟨q, 0, none⟩ = some (.int .i64 x.r.x) ∧ Z.cell? ⟨q, 1, none⟩ = some (.int .i64 x.r.y) ∧ Z.cell? ⟨q, 2, none⟩ = some (.int .i64 x.r.a) ∧ Z.cell? ⟨q, 3, none⟩ = some (.int .i64 x.r.b)) 12 only_in (by kernel_rfl) (by kernel_rfl) ?_
                  refine anyZ_take 0 8 (v := ptr r) rfl (by kernel_rfl) (fun _ _ _ h => h.elim) (Or.inl ⟨by rfl, fun wx hx => run_y (by rfl) (by rfl) hx.1⟩) hSR ?_
                  try simp only [Act.put, List.getElem_toArray, List.getElem_cons_zero, List.getElem_cons_succ, List.setIfInBounds_toArray, List.set_cons_zero, List.set_cons_succ]
                  refine anyZ_take 1 8 (v := ptr r) rfl (by kernel_rfl) (fun _ _ _ h => h.elim) (Or.inl ⟨by rfl, fun wx hx => run_y (by rfl) (by rfl) hx.1⟩) hSR ?_
                  try simp only [Act.put, List.getElem_toArray, List.getElem_cons_zero, List.getElem_cons_succ, List.setIfInBounds_toArray, List.set_cons_zero, List.set_cons_succ]
                  refine anyZ_take 2 8 (v := ptr r) rfl (by kernel_rfl) (fun _ _ _ h => h.elim) (Or.inl ⟨by rfl, fun wx hx => run_nc (by rfl) (by rfl)⟩) hSR ?_
                  try simp only [Act.put, List.getElem_toArray, List.getElem_cons_zero, List.getElem_cons_succ, List.setIfInBounds_toArray, List.set_cons_zero, List.set_cons_succ]
                  refine anyZ_take 3 8 (v := ptr r) rfl (by kernel_rfl) (fun _ _ _ h => h.elim) (Or.inl ⟨by rfl, fun wx hx => run_l (by rfl) (by rfl)⟩) hSR ?_
                  try simp only [Act.put, List.getElem_toArray, List.getElem_cons_zero, List.getElem_cons_succ, List.setIfInBounds_toArray, List.set_cons_zero, List.set_cons_succ]
                  refine anyZ_take 4 8 (v := .slice av pre.length cap1) rfl (by kernel_rfl) (fun _ _ _ h => h.elim) (Or.inl ⟨by rfl, fun wx hx => run_load (by rfl) (by rfl) hx.2.1⟩) hSR ?_
                  try simp only [Act.put, List.getElem_toArray, List.getElem_cons_zero, List.getElem_cons_succ, List.setIfInBounds_toArray, List.set_cons_zero, List.set_cons_succ]
                  refine anyZ_take 5 8 (v := .int .i64 x.id) rfl (by kernel_rfl) (fun _ _ _ h => h.elim) (Or.inl ⟨by rfl, fun wx hx => run_mv (by rfl) (by rfl)⟩) hSR ?_
                  try simp only [Act.put, List.getElem_toArray, List.getElem_cons_zero, List.getElem_cons_succ, List.setIfInBounds_toArray, List.set_cons_zero, List.set_cons_succ]
                  refine anyZ_take 6 8 (v := rct x.r.x x.r.y x.r.a x.r.b) rfl (by kernel_rfl) (fun _ _ _ h => h.elim) (Or.inl ⟨by rfl, fun wx hx => run_rO (by rfl) (by rfl) hx.2.2.1 hx.2.2.2.1 hx.2.2.2.2.1 hx.2.2.2.2.2⟩) hSR ?_
                  try simp only [Act.put, List.getElem_toArray, List.getElem_cons_zero, List.getElem_cons_succ, List.setIfInBounds_toArray, List.set_cons_zero, List.set_cons_succ]
                  refine anyZ_take 7 8 (v := .agg #[.int .i64 x.id, .int .i64 x.r.x, .int .i64 x.r.y, .int .i64 x.r.a, .int .i64 x.r.b]) rfl (by kernel_rfl) (fun _ _ _ h => h.elim) (Or.inl ⟨by rfl, fun wx hx => run_unit (by rfl) (by rfl) (by rfl)⟩) hSR ?_
                  try simp only [Act.put, List.getElem_toArray, List.getElem_cons_zero, List.getElem_cons_succ, List.setIfInBounds_toArray, List.set_cons_zero, List.set_cons_succ]
                  refine anyZ_ready (rs := [8]) (by kernel_rfl) (by simp) ?_
                  refine readyZ.cons rfl rfl (run_single (by rfl) (by rfl)) (fun _ => HSb.out) ?_ readyZ.nil
                  try simp only [Act.put, List.getElem_toArray, List.getElem_cons_zero, List.getElem_cons_succ, List.setIfInBounds_toArray, List.set_cons_zero, List.set_cons_succ]
                  refine anyZ_ready (rs := [9]) (by kernel_rfl) (by simp) ?_
                  refine readyZ.cons rfl rfl (run_append (by rfl) (by rfl) (by rfl) HAp.out) (fun _ => HSc.out) ?_ readyZ.nil
                  try simp only [Act.put, List.getElem_toArray, List.getElem_cons_zero, List.getElem_cons_succ, List.setIfInBounds_toArray, List.set_cons_zero, List.set_cons_succ]
                  refine anyZ_take 10 8 (v := ptr r) rfl (by kernel_rfl) (fun _ _ _ h => h.elim) (Or.inl ⟨by rfl, fun wx hx => run_nc (by rfl) (by rfl)⟩) HSc.out ?_
                  try simp only [Act.put, List.getElem_toArray, List.getElem_cons_zero, List.getElem_cons_succ, List.setIfInBounds_toArray, List.set_cons_zero, List.set_cons_succ]
                  refine anyZ_take 11 8 (v := ptr r) rfl (by kernel_rfl) (fun _ _ _ h => h.elim) (Or.inl ⟨by rfl, fun wx hx => run_l (by rfl) (by rfl)⟩) HSc.out ?_
                  try simp only [Act.put, List.getElem_toArray, List.getElem_cons_zero, List.getElem_cons_succ, List.setIfInBounds_toArray, List.set_cons_zero, List.set_cons_succ]
                  refine anyZ_ready (rs := [12]) (by kernel_rfl) (by simp) ?_
                  refine readyZ.skip rfl rfl (run_store (by rfl) (by rfl) (by rfl) hv2 HSc.out.2.1 hfr) (fun h => absurd rfl h) ?_ readyZ.nil
                  try simp only [Act.put, List.getElem_toArray, List.getElem_cons_zero, List.getElem_cons_succ, List.setIfInBounds_toArray, List.set_cons_zero, List.set_cons_succ]
                  refine anyZ_done (by kernel_rfl) ?_ _
                  dsimp only [Only]
                  exact HEn.out
            case done =>
              rintro D C W hD ⟨v', hAr⟩ hK
              have A5 := A4.range hAr hD hK
              gi_wp2_with fail
              exact ⟨⟨i + 1, _, v', _, D :: Ds, A5, by omega, by omega, by omega, mkU _ _ _ rfl⟩, by simp [intOf]; omega⟩
    · have HA := hide hA
      by_cases h1 : i < K.length
      · have hki : (i : Int) < (K.length : Nat) ∧ (0 : Int) ≤ (i : Nat) := by omega
        have hk4 : ¬ (i : Int) < 400 := by omega
        clear hA
        gi_wp2_with fail
        refine ⟨trivial, ?_⟩
        refine (callsIn_wide.2 (awake_any _)).mono ?_
        rintro e X5 ⟨rfl, hb5⟩
        have A5 := HA.out.kept hb5
        have c5 := A5.bx.cell
        have f5 := A5.bx.frozen
        have T5 : Turns (fun k => k = w.heap.size) X5 (X5.setCell ⟨w.heap.size, 0, none⟩ (.bool true)) := Turns.set (S := fun k => k = w.heap.size) _ rfl _
        have HJ : Hid (Boxed (X5.setCell ⟨w.heap.size, 0, none⟩ (.bool true)) w.heap.size 4 (.bool true) ∧ Below w.heap.size w (X5.setCell ⟨w.heap.size, 0, none⟩ (.bool true))) := hide ⟨A5.bx.set _, A5.below.trans (T5.below (fun k e => by omega) A5.below.size)⟩
        have HD : Hid (∀ D ∈ Ds, yb ≤ D ∧ (X5.setCell ⟨w.heap.size, 0, none⟩ (.bool true)).heap[D]? = some (.deferred (some []))) := hide (fun D hD => ⟨Nat.le_of_lt (A5.ds D hD).1, T5.same (by have := (A5.ds D hD).1; omega) (A5.ds D hD).2⟩)
        have HN := hide A5.nd
        clear A5 hb5 T5
        gi_wp2_with fail
        refine leave_marks (c := yb) (fun Z => Boxed Z w.heap.size 4 (.bool true) ∧ Below w.heap.size w Z) (fun Z D h1 h2 h3 => ?_) (fun Z h => ?_) Ds _ HN.out HD.out HJ.out
        · have tp : Turns (fun k => k = D) Z (Z.putObj D (.deferred none)) := turns_put _ _ _ rfl
          exact ⟨boxed_kept h3.1 tp (by omega), h3.2.trans (tp.below (fun k e => by omega) h3.2.size)⟩
        · have cz := h.1.cell
          refine ⟨.bool true, ?_, rfl, h.2⟩
          simp [results, Try.f5, go_sem, cz]
      · have hki : ¬ (i : Int) < (K.length : Nat) := by omega
        clear hA
        gi_wp2_with fail
        refine ⟨trivial, ?_⟩
        refine (callsIn_wide.2 (awake_any _)).mono ?_
        rintro e X5 ⟨rfl, hb5⟩
        have A5 := HA.out.kept hb5
        have c5 := A5.bx.cell
        have f5 := A5.bx.frozen
        have T5 : Turns (fun k => k = w.heap.size) X5 (X5.setCell ⟨w.heap.size, 0, none⟩ (.bool true)) := Turns.set (S := fun k => k = w.heap.size) _ rfl _
        have HJ : Hid (Boxed (X5.setCell ⟨w.heap.size, 0, none⟩ (.bool true)) w.heap.size 4 (.bool true) ∧ Below w.heap.size w (X5.setCell ⟨w.heap.size, 0, none⟩ (.bool true))) := hide ⟨A5.bx.set _, A5.below.trans (T5.below (fun k e => by omega) A5.below.size)⟩
        have HD : Hid (∀ D ∈ Ds, yb ≤ D ∧ (X5.setCell ⟨w.heap.size, 0, none⟩ (.bool true)).heap[D]? = some (.deferred (some []))) := hide (fun D hD => ⟨Nat.le_of_lt (A5.ds D hD).1, T5.same (by have := (A5.ds D hD).1; omega) (A5.ds D hD).2⟩)
        have HN := hide A5.nd
        clear A5 hb5 T5
        gi_wp2_with fail
        refine leave_marks (c := yb) (fun Z => Boxed Z w.heap.size 4 (.bool true) ∧ Below w.heap.size w Z) (fun Z D h1 h2 h3 => ?_) (fun Z h => ?_) Ds _ HN.out HD.out HJ.out
        · have tp : Turns (fun k => k = D) Z (Z.putObj D (.deferred none)) := turns_put _ _ _ rfl
          exact ⟨boxed_kept h3.1 tp (by omega), h3.2.trans (tp.below (fun k e => by omega) h3.2.size)⟩
        · have cz := h.1.cell
          refine ⟨.bool true, ?_, rfl, h.2⟩
          simp [results, Try.f5, go_sem, cz]
end Go.Proofs.Ytkodeopkgmichaa
