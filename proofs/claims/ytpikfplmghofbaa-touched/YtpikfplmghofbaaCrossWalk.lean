/-
  phalanxlaw11.ClusterCrossed, walked.
-/
import Derived.Test.YtpikfplmghofbaaCross
import Derived.Test.YtpikfplmghofbaaAw
import Derived.Deep.RegionHeld
set_option linter.unusedSimpArgs false
namespace Go.Proofs.Ytpikfplmghofbaa
open Go.RowKit
set_option linter.unusedVariables false
attribute [local go_sem] Oper.semAt_some
theorem wp_only {c : Code} {Q : Exit → Act → World → Prop} {a : Act} {w : World} (h : c.wp Try.prog (Only (fun a' w' => Q .normal a' w')) a w) : c.wp Try.prog Q a w := by
  refine Code.wp_mono ?_ h
  rintro (_ | _ | _ | _ | _) a' w' hO
  all_goals first | exact hO.elim | exact hO
set_option maxRecDepth 100000 in
set_option maxHeartbeats 4000000 in
theorem crossed_walk (x y : Int) (v : Value) (P : List (Int × Int)) (w : World) (hv : CeR w v P) (hx : W64 x) (hy : W64 y) (hlen : P.length * 16 ≤ 140737488355328) :
    Calls Try.prog 4 #[cel x y, v] w fun e w' => e = .returned (.bool true) ∧ Below w.heap.size w w' := by
  have hv' := hv
  obtain ⟨a, cap, rfl, hcap, hmax, -, -⟩ := hv'
  have hl63 : (0 : Int) ≤ (P.length : Nat) ∧ ((P.length : Nat) : Int) ≤ 8796093022208 := by omega
  obtain ⟨X, hX⟩ : ∃ X, (w.alloc (.cells #[.int .i64 x, .int .i64 y] 23)).alloc (.cells #[.int .i64 x, .int .i64 y] 23) = X := ⟨_, rfl⟩
  have B0 : Below w.heap.size w X := by rw [← hX]; exact box2 _ _ _
  have T0 : Two X w.heap.size x y := by rw [← hX]; exact (Two.newAt rfl).alloc
  have T1 : Two X (w.heap.size + 1) x y := by rw [← hX]; exact Two.newAt (by simp)
  have HX := hide (And.intro hx hy)
  have HL := hide hlen
  have HV := hide hv
  clear hlen hv hmax hcap hx hy
  go_enter Try.func4, Try.ntmps4
  go_wp2_with fail
  clear hX
  go_loopw [6] (fun s6 wr => ∃ (k : Nat) (fx fy : Int), k ≤ P.length ∧ s6 = .int .i64 k ∧ Nears (P.take k) ∧ (0 < k → nrC x y = true) ∧ (k = 0 → fx = x ∧ fy = y) ∧ Two wr w.heap.size x y ∧ Two wr (w.heap.size + 1) fx fy ∧ Below w.heap.size w wr) (fun s6 _ => P.length - (intOf s6).toNat)
  case atStart => exact ⟨0, x, y, Nat.zero_le _, rfl, fun q hq => by simp at hq, fun h => by omega, fun _ => ⟨rfl, rfl⟩, T0, T1, B0⟩
  case round =>
    obtain ⟨k, fx, fy, hk, rfl, hN, h0x, h0f, hT, hF, hB⟩ := hrel
    have HN := hide hN
    have H0 := hide (And.intro h0x h0f)
    clear hN h0x h0f
    by_cases hlt : k < P.length
    · obtain ⟨q, hq⟩ : ∃ q, P[k]? = some q := ⟨_, List.getElem?_eq_getElem hlt⟩
      obtain ⟨g, o, hga, hgl, c0, c1⟩ : ∃ g o, a = some ⟨g, o, none⟩ ∧ g < wr.heap.size ∧ wr.cell? ⟨g, o + k * 2, none⟩ = some (.int .i64 q.1) ∧ wr.cell? ⟨g, o + k * 2 + 1, none⟩ = some (.int .i64 q.2) := by
        obtain ⟨a', cap', he', _, _, _, hform⟩ := HV.out.kept hB
        obtain ⟨g', o', hgg, hl, e1, e2⟩ := hform k q hq
        injection he' with h1 h2 h3
        exact ⟨g', o', h1.trans hgg, hl, e1, e2⟩
      subst hga
      obtain ⟨qx, qy⟩ := q
      simp only at c0 c1
      have HQ := hide hq
      clear hq
      have hki : (k : Int) < (P.length : Nat) := by omega
      have hkk : IntKind.i64.wrap ((k : Int) + 1) = (k : Int) + 1 := by rw [IntKind.wrap_i64]; omega
      obtain ⟨⟨t0, t1⟩, -, -⟩ := id hF
      obtain ⟨bf, hbf⟩ : ∃ b, nrC fx fy = b := ⟨_, rfl⟩
      obtain ⟨bq, hbq⟩ : ∃ b, nrC qx qy = b := ⟨_, rfl⟩
      have HF1 := hide (refnear_any fx fy wr)
      have HF2 := hide (refnear_any qx qy)
      rw [hbf] at HF1
      rw [hbq] at HF2
      have HBF := hide (And.intro hbf hbq)
      clear hbf hbq
      cases bf
      · go_wp2_with fail
        refine HF1.out.mono ?_
        rintro e w1 ⟨rfl, hb1⟩
        have HB1 := hide (bt hB hb1)
        clear c0 c1 t0 t1 HF1 HF2 hb1 hB hT hF
        go_wp2_with (go_at_call 8; refine (aw_is _).mono ?_; rintro e w3 ⟨rfl, hb3⟩)
        go_ret
        exact ⟨rfl, bt HB1.out hb3⟩
      · go_wp2_with fail
        refine HF1.out.mono ?_
        rintro e w1 ⟨rfl, hb1⟩
        have d0 := (hb1.cell (p := ⟨g, o + k * 2, none⟩) hgl).trans c0
        have d1 := (hb1.cell (p := ⟨g, o + k * 2 + 1, none⟩) hgl).trans c1
        have hT1 := hT.kept hb1
        have hF1 := hF.kept hb1
        have hB1 := bt hB hb1
        have hgl1 := Nat.lt_of_lt_of_le hgl hb1.size
        clear c0 c1 t0 t1 HF1 hb1 hB hT hF hgl
        cases bq
        · go_wp2_with fail
          refine (HF2.out _).mono ?_
          rintro e w2 ⟨rfl, hb2⟩
          have HB2 := hide (bt hB1 hb2)
          clear d0 d1 HF2 hb2 hB1 hT1 hF1
          go_wp2_with (go_at_call 8; refine (aw_is _).mono ?_; rintro e w3 ⟨rfl, hb3⟩)
          go_ret
          exact ⟨rfl, bt HB2.out hb3⟩
        · go_wp2_with fail
          refine (HF2.out _).mono ?_
          rintro e w2 ⟨rfl, hb2⟩
          have c0 := (hb2.cell (p := ⟨g, o + k * 2, none⟩) hgl1).trans d0
          have c1 := (hb2.cell (p := ⟨g, o + k * 2 + 1, none⟩) hgl1).trans d1
          have hT2 := hT1.kept hb2
          have hF2 := hF1.kept hb2
          have HB2 := hide (bt hB1 hb2)
          have HZ := hide hb2
          clear d0 d1 HF2 hb2 hB1 hT1 hF1
          obtain ⟨⟨t0, t1⟩, ⟨f0, f1⟩, fz⟩ := id hF2
          go_wp2_with fail
          go_roundw
          case rel =>
            refine ⟨k + 1, qx, qy, by omega, by push_cast; rfl, ?_, ?_, fun h => by omega, ?_, Two.set hF2, ?_⟩
            · intro p hp
              rw [List.take_add_one, HQ.out] at hp
              rcases List.mem_append.1 hp with h | h
              · exact HN.out p h
              · simp at h; subst h; exact HBF.out.2
            · intro _
              by_cases hk0 : k = 0
              · obtain ⟨rfl, rfl⟩ := H0.out.2 hk0
                exact HBF.out.1
              · exact H0.out.1 (by omega)
            · exact Two.other hT2 (by omega)
            · exact (HB2.out.setCell (p := ⟨w.heap.size + 1, 0, none⟩) (by simp) _).setCell (p := ⟨w.heap.size + 1, 1, none⟩) (by simp) _
          case measure => simp [intOf]; omega
    · obtain rfl : k = P.length := by omega
      have hki : ¬ ((P.length : Nat) : Int) < (P.length : Nat) := by omega
      have hNs : Nears P := by have := HN.out; rwa [List.take_length] at this
      have hFs : P ≠ [] → nrC x y = true := fun h => H0.out.1 (by cases P; exact absurd rfl h; simp)
      have hv2 := HV.out.kept hB
      obtain ⟨v3, w3, hrun3, hv3, hB3'⟩ := append_path wr.drew a cap P (hv2.kept (Below.refl _ _).drew) HL.out
      have hB3 : Below wr.heap.size wr w3 := below_undrew hB3'
      obtain ⟨c, hc⟩ : ∃ c, crV x y P = c := ⟨_, rfl⟩
      have H1 : Hid (∀ wx, Below w3.heap.size w3 wx → Calls Try.prog 10 #[cel x y, v3] wx fun e w' => e = .returned (.int .i64 c) ∧ Below wx.heap.size wx w') := hide fun wx hx => by
        rw [← hc]; exact crossed_any x y v3 P wx (hv3.kept hx) HX.out.1 HX.out.2 hNs hFs HL.out
      have H2 : Hid (∀ wx, Below wr.heap.size wr wx → Calls Try.prog 11 #[cel x y, .slice a P.length cap] wx fun e w' => e = .returned (.int .i64 c) ∧ Below wx.heap.size wx w') := hide fun wx hx => by
        rw [← hc]; exact refcrossed_any x y _ P wx (hv2.kept hx) hNs hFs HL.out
      have hS : ∀ wx, Below wr.heap.size wr wx → wx.cell? ⟨w.heap.size, 0, none⟩ = some (.int .i64 x) ∧ wx.cell? ⟨w.heap.size, 1, none⟩ = some (.int .i64 y) := fun wx hx => ((hT.kept hx).1)
      have HBr := hide hB
      have hS0 := hS _ (Below.refl _ _).drew
      clear hB hT hF HN H0 hNs hFs hv2 hv3 hB3' hc HV HL HX
      go_wp2_with fail
      refine wp_only ?_
      refine wp_region_held_drew (S := fun w' => w'.cell? ⟨w.heap.size, 0, none⟩ = some (.int .i64 x) ∧ w'.cell? ⟨w.heap.size, 1, none⟩ = some (.int .i64 y)) (by kernel_rfl) hS0 (fun hHeld => ?_)
      refine wpAnyH_take (i := 0) (v := ?_) rfl (by kernel_rfl) (by kernel_rfl) (by kernel_rfl) (fun _ _ _ h => h.elim) (Or.inl ⟨by rfl, ?_⟩) (by assumption) ?_
      rotate_left
      · intro wx hSw
        try dsimp only at hSw
        go_simp
        try with_reducible rfl
      try simp only [Act.put, List.getElem_toArray, List.getElem_cons_zero, List.getElem_cons_succ, List.setIfInBounds_toArray, List.set_cons_zero, List.set_cons_succ]
      refine wpAnyH_take (i := 2) (v := ?_) rfl (by kernel_rfl) (by kernel_rfl) (by kernel_rfl) (fun _ _ _ h => h.elim) (Or.inl ⟨by rfl, ?_⟩) (by assumption) ?_
      rotate_left
      · intro wx hSw
        try dsimp only at hSw
        go_simp
        try with_reducible rfl
      try simp only [Act.put, List.getElem_toArray, List.getElem_cons_zero, List.getElem_cons_succ, List.setIfInBounds_toArray, List.set_cons_zero, List.set_cons_succ]
      refine wpAnyH_take (i := 5) (v := ?_) rfl (by kernel_rfl) (by kernel_rfl) (by kernel_rfl) (fun _ _ _ h => h.elim) (Or.inl ⟨by rfl, ?_⟩) (by assumption) ?_
      rotate_left
      · intro wx hSw
        try dsimp only at hSw
        go_simp
        try with_reducible rfl
      try simp only [Act.put, List.getElem_toArray, List.getElem_cons_zero, List.getElem_cons_succ, List.setIfInBounds_toArray, List.set_cons_zero, List.set_cons_succ]
      refine wpAnyH_take (i := 6) (v := ?_) rfl (by kernel_rfl) (by kernel_rfl) (by kernel_rfl) (fun _ _ _ h => h.elim) (Or.inl ⟨by rfl, ?_⟩) (by assumption) ?_
      rotate_left
      · intro wx hSw
        try dsimp only at hSw
        go_simp
        try with_reducible rfl
      try simp only [Act.put, List.getElem_toArray, List.getElem_cons_zero, List.getElem_cons_succ, List.setIfInBounds_toArray, List.set_cons_zero, List.set_cons_succ]
      refine wpAnyH_ready (rs := [1]) (by kernel_rfl) (by simp) ?_
      refine AllReadyH.cons rfl (fun K hK => ?_) AllReadyH.nil
      go_simp
      refine hK.out _ _ (by first | exact hS _ (Below.refl _ _).drew | exact hS _ (box1 _ _) | exact hS _ (box1 _ _).drew | exact hS _ (by assumption)) (fun hHeld => ?_)
      clear hK K
      try simp only [Act.put, List.getElem_toArray, List.getElem_cons_zero, List.getElem_cons_succ, List.setIfInBounds_toArray, List.set_cons_zero, List.set_cons_succ]
      refine wpAnyH_ready (rs := [3]) (by kernel_rfl) (by simp) ?_
      refine AllReadyH.cons rfl (fun K hK => ?_) AllReadyH.nil
      refine step_append_eq rfl _ _ 27 27 rfl (by simp [Act.eval]) (by simp [Act.eval]) (show _ = _ from hrun3) ?_
      refine hK.out _ _ (by first | exact hS _ (Below.refl _ _).drew | exact hS _ (box1 _ _) | exact hS _ (box1 _ _).drew | exact hS _ (by assumption)) (fun hHeld => ?_)
      clear hK K
      try simp only [Act.put, List.getElem_toArray, List.getElem_cons_zero, List.getElem_cons_succ, List.setIfInBounds_toArray, List.set_cons_zero, List.set_cons_succ]
      refine wpAnyH_ready (rs := [4]) (by kernel_rfl) (by simp) ?_
      refine AllReadyH.cons rfl (fun K hK => ?_) AllReadyH.nil
      go_simp
      refine (H1.out _ (Below.refl _ _)).mono ?_
      rintro e w4 ⟨rfl, hb4⟩
      have hB4 := bt hB3 hb4
      clear hb4
      try go_wp2_with fail
      refine hK.out _ _ (by first | exact hS _ (Below.refl _ _).drew | exact hS _ (box1 _ _) | exact hS _ (box1 _ _).drew | exact hS _ (by assumption)) (fun hHeld => ?_)
      clear hK K
      try simp only [Act.put, List.getElem_toArray, List.getElem_cons_zero, List.getElem_cons_succ, List.setIfInBounds_toArray, List.set_cons_zero, List.set_cons_succ]
      refine wpAnyH_ready (rs := [7]) (by kernel_rfl) (by simp) ?_
      refine AllReadyH.cons rfl (fun K hK => ?_) AllReadyH.nil
      go_simp
      refine (H2.out _ hB4).mono ?_
      rintro e w5 ⟨rfl, hb5⟩
      have hB5 := bt hB4 hb5
      clear hb5
      try go_wp2_with fail
      refine hK.out _ _ (by first | exact hS _ (Below.refl _ _).drew | exact hS _ (box1 _ _) | exact hS _ (box1 _ _).drew | exact hS _ (by assumption)) (fun hHeld => ?_)
      clear hK K
      try simp only [Act.put, List.getElem_toArray, List.getElem_cons_zero, List.getElem_cons_succ, List.setIfInBounds_toArray, List.set_cons_zero, List.set_cons_succ]
      refine wpAnyH_take (i := 8) (v := ?_) rfl (by kernel_rfl) (by kernel_rfl) (by kernel_rfl) (fun _ _ _ h => h.elim) (Or.inl ⟨by rfl, ?_⟩) (by assumption) ?_
      rotate_left
      · intro wx hSw
        try dsimp only at hSw
        go_simp
        try with_reducible rfl
      try simp only [Act.put, List.getElem_toArray, List.getElem_cons_zero, List.getElem_cons_succ, List.setIfInBounds_toArray, List.set_cons_zero, List.set_cons_succ]
      refine wpAnyH_take (i := 9) (v := ?_) rfl (by kernel_rfl) (by kernel_rfl) (by kernel_rfl) (fun _ _ _ h => h.elim) (Or.inl ⟨by rfl, ?_⟩) (by assumption) ?_
      rotate_left
      · intro wx hSw
        try dsimp only at hSw
        go_simp
        try with_reducible rfl
      try simp only [Act.put, List.getElem_toArray, List.getElem_cons_zero, List.getElem_cons_succ, List.setIfInBounds_toArray, List.set_cons_zero, List.set_cons_succ]
      refine wpAnyH_ready (rs := [10]) (by kernel_rfl) (by simp) ?_
      refine AllReadyH.cons rfl (fun K hK => ?_) AllReadyH.nil
      go_simp
      refine (aw_is _).mono ?_
      rintro e w6 ⟨rfl, hb6⟩
      have hB6 := bt hB5 hb6
      clear hb6
      try go_wp2_with fail
      refine hK.out _ _ (by first | exact hS _ (Below.refl _ _).drew | exact hS _ (box1 _ _) | exact hS _ (box1 _ _).drew | exact hS _ (by assumption)) (fun hHeld => ?_)
      clear hK K
      try simp only [Act.put, List.getElem_toArray, List.getElem_cons_zero, List.getElem_cons_succ, List.setIfInBounds_toArray, List.set_cons_zero, List.set_cons_succ]
      refine wpAnyH_take (i := 11) (v := ?_) rfl (by kernel_rfl) (by kernel_rfl) (by kernel_rfl) (fun _ _ _ h => h.elim) (Or.inl ⟨by rfl, ?_⟩) (by assumption) ?_
      rotate_left
      · intro wx hSw
        try dsimp only at hSw
        go_simp
        try with_reducible rfl
      try simp only [Act.put, List.getElem_toArray, List.getElem_cons_zero, List.getElem_cons_succ, List.setIfInBounds_toArray, List.set_cons_zero, List.set_cons_succ]
      refine wpAnyH_take (i := 12) (v := ?_) rfl (by kernel_rfl) (by kernel_rfl) (by kernel_rfl) (fun _ _ _ h => h.elim) (Or.inl ⟨by rfl, ?_⟩) (by assumption) ?_
      rotate_left
      · intro wx hSw
        try dsimp only at hSw
        go_simp
        try with_reducible rfl
      try simp only [Act.put, List.getElem_toArray, List.getElem_cons_zero, List.getElem_cons_succ, List.setIfInBounds_toArray, List.set_cons_zero, List.set_cons_succ]
      refine wpAnyH_done (by kernel_rfl) ?_ _
      dsimp only [Only, Exit.then]
      go_wp2_with fail
      go_ret
      exact ⟨rfl, bt HBr.out hB6⟩
end Go.Proofs.Ytpikfplmghofbaa
