/-
  phalanxlaw09.HeapActs, walked.
-/
import Derived.Test.YtdhiomahcilffaaAArg
namespace Go.Proofs.Ytdhiomahcilffaa
open Go.RowKit
set_option linter.unusedVariables false
set_option linter.unusedSimpArgs false
attribute [local go_sem] Oper.semAt_some
set_option maxRecDepth 100000 in
set_option maxHeartbeats 8000000 in
theorem acts_is (v : Value) (zs : List Int) (w : World) (h : Nr w v zs) (hz : ∀ z ∈ zs, W64 z) : Calls Try.prog 3 #[v] w fun e w' => e = .returned (.bool true) ∧ Below w.heap.size w w' := by
  obtain ⟨a, cap, rfl, hlen, hcells⟩ := h
  have HC : Hid (∀ wr, Below w.heap.size w wr → ∀ (i : Nat) z, zs[i]? = some z → ∃ g o, a = some ⟨g, o, none⟩ ∧ wr.cell? ⟨g, o + i, none⟩ = some (.int .i64 z)) := hide fun wr hb i z hz => by
    obtain ⟨g, o, e1, e2⟩ := hcells i z hz
    exact ⟨g, o, e1, (hb.cell (World.block_lt_of_cell? w _ e2)).trans e2⟩
  have HZ := hide hz
  clear hcells hz
  go_enter Try.func3, Try.ntmps3
  go_wp2_with fail
  refine (hnew_is w).mono ?_
  rintro e w1 ⟨rfl, h1, b1, z1⟩
  have HA1 : Hid (∃ u n l, Ac w.heap.size w.heap.size u n (.slice (some ⟨w1.heap.size, 0, none⟩) 0 0) l (w1.alloc (.cells #[] 26)) ∧ n ≤ ((0 : Nat) : Int) ∧ l.length ≤ 0) := hide ⟨_, 0, [], { h := h1.upto (box1 _ _), a := .inr ⟨w1.heap.size, 0, #[], rfl, heap_alloc_new w1 _, Nat.le_refl _, by decide, rfl, .inl rfl⟩, i := List.Pairwise.nil, p := fun t ht => by simp at ht, n0 := by omega, nb := Nat.le_refl _, nu := fun k e => by simp [Value.ownBlock] at e, nv := fun k e => by simp [Value.ownBlock] at e; omega }, by omega, by simp⟩
  have HB1 := hide (bt b1 (box1 w1 (.cells #[] 26)))
  clear h1 b1
  go_wp2_with fail
  go_loopw [4, 5] (fun x i wr => ∃ (k : Nat), i = .int .i64 (k : Nat) ∧ k ≤ zs.length ∧ k ≤ 300 ∧ (∃ u n l, Ac w.heap.size w.heap.size u n x l wr ∧ n ≤ (k : Nat) ∧ l.length ≤ k) ∧ Below w.heap.size w wr) (fun _ i _ => zs.length - (intOf i).toNat)
  case atStart => exact ⟨0, rfl, Nat.zero_le _, by omega, HA1.out, HB1.out⟩
  case round =>
    obtain ⟨k, rfl, hk, hk3, ⟨u, n, l, hac, hn, hll⟩, hB⟩ := hrel
    rename World => wo
    have HB := hide hB
    have HAc := hide hac
    by_cases hkl : k < zs.length
    · by_cases hk4 : k < 300
      · obtain ⟨z, hzk⟩ : ∃ z, zs[k]? = some z := ⟨_, List.getElem?_eq_getElem hkl⟩
        obtain ⟨g, o, rfl, c0⟩ := HC.out wo hB k z hzk
        have hz64 := w64_range (HZ.out z (List.mem_of_getElem? hzk))
        have d1 : (k : Int) < (zs.length : Nat) := by omega
        have d2 : (k : Int) < 300 := by omega
        have d3 : (k : Int) + 1 ≤ 301 := by omega
        have d1' : decide ((k : Int) < (zs.length : Nat)) = true := by simpa using hkl
        have HCk : Hid (∀ wr, Below w.heap.size w wr → wr.cell? ⟨g, o + k, none⟩ = some (.int .i64 z)) := hide fun wr hb => by
          obtain ⟨g', o', e1, e2⟩ := HC.out wr hb k z hzk
          simp only [Option.some.injEq, Addr.mk.injEq, and_true] at e1
          obtain ⟨rfl, rfl⟩ := e1
          exact e2
        clear hac hB
        by_cases hm : z.tmod 3 = 0
        · have HLnb : Hid (l.length ≤ k) := hide hll
          have HAb := HAc
          have HBb := HB
          have HNn := hide hn
          clear hn
          rcases Nat.eq_zero_or_pos l.length with hl0 | hl0
          · have hle : l = [] := List.eq_nil_of_length_eq_zero hl0
            subst hle
            go_wp2_with fail
            refine (first_is _ _ _ HAb.out.a (by simp)).mono ?_
            rintro e wf ⟨r, rfl, hF, hbf⟩
            obtain rfl : r = -1 := hF.none rfl
            have HAf := hide (HAb.out.upto hbf)
            have HBf := hide (bt HBb.out hbf)
            clear hF hbf
            go_wp2_with fail
            refine (HAf.out.top0).mono ?_
            rintro e wt ⟨rfl, hbt⟩
            have HAt := hide ((HAf.out.upto hbt).upto (box1 wt (.cells #[.int .i64 0, .int .i64 0] 26)))
            have HBt := hide (bt (bt HBf.out hbt) (box1 wt (.cells #[.int .i64 0, .int .i64 0] 26)))
            have xt := B2.new wt 0 0
            clear hbt
            obtain ⟨T, hT⟩ : ∃ T, wt.alloc (.cells #[.int .i64 0, .int .i64 0] 26) = T := ⟨_, rfl⟩
            rw [hT] at HAt HBt xt
            have HT := hide hT
            have HXt := hide xt
            clear hT xt
            obtain ⟨ae, ce, hve, _, _⟩ := HAt.out.a.slice
            have HLe := hide (hlen_is _ _ _ _ T.drew (HAt.out.h.upto ((Below.refl _ _).drew)))
            subst hve
            go_wp2_with fail
            rw [HT.out]
            refine wp_only ?_
            refine wp_region_held_drew (S := fun wx => wx = T.drew) (by kernel_rfl) rfl (fun hHeld => ?_)
            refine wpAnyH_take (i := 0) (v := ?_) rfl (by kernel_rfl) (by kernel_rfl) (by kernel_rfl) (fun _ _ _ h => h.elim) (Or.inl ⟨by rfl, ?_⟩) (by assumption) ?_
            rotate_left
            · intro wx hSw
              try dsimp only at hSw
              go_simp
              try with_reducible rfl
            try simp only [Act.put, List.getElem_toArray, List.getElem_cons_zero, List.getElem_cons_succ, List.setIfInBounds_toArray, List.set_cons_zero, List.set_cons_succ]
            refine wpAnyH_take (i := 1) (v := ?_) rfl (by kernel_rfl) (by kernel_rfl) (by kernel_rfl) (fun _ _ _ h => h.elim) (Or.inl ⟨by rfl, ?_⟩) (by assumption) ?_
            rotate_left
            · intro wx hSw
              try dsimp only at hSw
              go_simp
              try with_reducible rfl
            try simp only [Act.put, List.getElem_toArray, List.getElem_cons_zero, List.getElem_cons_succ, List.setIfInBounds_toArray, List.set_cons_zero, List.set_cons_succ]
            refine wpAnyH_take (i := 2) (v := ?_) rfl (by kernel_rfl) (by kernel_rfl) (by kernel_rfl) (fun _ _ _ h => h.elim) (Or.inl ⟨by rfl, ?_⟩) (by assumption) ?_
            rotate_left
            · intro wx hSw
              try dsimp only at hSw
              go_simp
              try with_reducible rfl
            try simp only [Act.put, List.getElem_toArray, List.getElem_cons_zero, List.getElem_cons_succ, List.setIfInBounds_toArray, List.set_cons_zero, List.set_cons_succ]
            refine wpAnyH_take (i := 3) (v := ?_) rfl (by kernel_rfl) (by kernel_rfl) (by kernel_rfl) (fun _ _ _ h => h.elim) (Or.inl ⟨by rfl, ?_⟩) (by assumption) ?_
            rotate_left
            · intro wx hSw
              try dsimp only at hSw
              go_simp
              try with_reducible rfl
            try simp only [Act.put, List.getElem_toArray, List.getElem_cons_zero, List.getElem_cons_succ, List.setIfInBounds_toArray, List.set_cons_zero, List.set_cons_succ]
            refine wpAnyH_take (i := 4) (v := ?_) rfl (by kernel_rfl) (by kernel_rfl) (by kernel_rfl) (fun _ _ _ h => h.elim) (Or.inl ⟨by rfl, ?_⟩) (by assumption) ?_
            rotate_left
            · intro wx hSw
              try dsimp only at hSw
              go_simp
              try with_reducible rfl
            try simp only [Act.put, List.getElem_toArray, List.getElem_cons_zero, List.getElem_cons_succ, List.setIfInBounds_toArray, List.set_cons_zero, List.set_cons_succ]
            refine wpAnyH_take (i := 5) (v := ?_) rfl (by kernel_rfl) (by kernel_rfl) (by kernel_rfl) (fun _ _ _ h => h.elim) (Or.inl ⟨by rfl, ?_⟩) (by assumption) ?_
            rotate_left
            · intro wx hSw
              try dsimp only at hSw
              go_simp
              try with_reducible rfl
            try simp only [Act.put, List.getElem_toArray, List.getElem_cons_zero, List.getElem_cons_succ, List.setIfInBounds_toArray, List.set_cons_zero, List.set_cons_succ]
            refine wpAnyH_take (i := 6) (v := ?_) rfl (by kernel_rfl) (by kernel_rfl) (by kernel_rfl) (fun _ _ _ h => h.elim) (Or.inl ⟨by rfl, ?_⟩) (by assumption) ?_
            rotate_left
            · intro wx hSw
              try dsimp only at hSw
              go_simp
              try with_reducible rfl
            try simp only [Act.put, List.getElem_toArray, List.getElem_cons_zero, List.getElem_cons_succ, List.setIfInBounds_toArray, List.set_cons_zero, List.set_cons_succ]
            refine wpAnyH_take (i := 7) (v := undef) rfl (by kernel_rfl) (by kernel_rfl) (by kernel_rfl) (fun _ _ _ h => h.elim) (Or.inr ⟨by rfl, rfl⟩) (by assumption) ?_
            try simp only [Act.put, List.getElem_toArray, List.getElem_cons_zero, List.getElem_cons_succ, List.setIfInBounds_toArray, List.set_cons_zero, List.set_cons_succ]
            refine wpAnyH_take (i := 8) (v := undef) rfl (by kernel_rfl) (by kernel_rfl) (by kernel_rfl) (fun _ _ _ h => h.elim) (Or.inr ⟨by rfl, rfl⟩) (by assumption) ?_
            try simp only [Act.put, List.getElem_toArray, List.getElem_cons_zero, List.getElem_cons_succ, List.setIfInBounds_toArray, List.set_cons_zero, List.set_cons_succ]
            refine wpAnyH_take (i := 9) (v := undef) rfl (by kernel_rfl) (by kernel_rfl) (by kernel_rfl) (fun _ _ _ h => h.elim) (Or.inr ⟨by rfl, rfl⟩) (by assumption) ?_
            try simp only [Act.put, List.getElem_toArray, List.getElem_cons_zero, List.getElem_cons_succ, List.setIfInBounds_toArray, List.set_cons_zero, List.set_cons_succ]
            refine wpAnyH_take (i := 10) (v := undef) rfl (by kernel_rfl) (by kernel_rfl) (by kernel_rfl) (fun _ _ _ h => h.elim) (Or.inr ⟨by rfl, rfl⟩) (by assumption) ?_
            try simp only [Act.put, List.getElem_toArray, List.getElem_cons_zero, List.getElem_cons_succ, List.setIfInBounds_toArray, List.set_cons_zero, List.set_cons_succ]
            refine wpAnyH_take (i := 11) (v := undef) rfl (by kernel_rfl) (by kernel_rfl) (by kernel_rfl) (fun _ _ _ h => h.elim) (Or.inr ⟨by rfl, rfl⟩) (by assumption) ?_
            try simp only [Act.put, List.getElem_toArray, List.getElem_cons_zero, List.getElem_cons_succ, List.setIfInBounds_toArray, List.set_cons_zero, List.set_cons_succ]
            refine wpAnyH_take (i := 12) (v := undef) rfl (by kernel_rfl) (by kernel_rfl) (by kernel_rfl) (fun _ _ _ h => h.elim) (Or.inr ⟨by rfl, rfl⟩) (by assumption) ?_
            try simp only [Act.put, List.getElem_toArray, List.getElem_cons_zero, List.getElem_cons_succ, List.setIfInBounds_toArray, List.set_cons_zero, List.set_cons_succ]
            refine wpAnyH_take (i := 13) (v := ?_) rfl (by kernel_rfl) (by kernel_rfl) (by kernel_rfl) (fun _ _ _ h => h.elim) (Or.inl ⟨by rfl, ?_⟩) (by assumption) ?_
            rotate_left
            · intro wx hSw
              try dsimp only at hSw
              go_simp
              try with_reducible rfl
            try simp only [Act.put, List.getElem_toArray, List.getElem_cons_zero, List.getElem_cons_succ, List.setIfInBounds_toArray, List.set_cons_zero, List.set_cons_succ]
            refine wpAnyH_take (i := 14) (v := ?_) rfl (by kernel_rfl) (by kernel_rfl) (by kernel_rfl) (fun _ _ _ h => h.elim) (Or.inl ⟨by rfl, ?_⟩) (by assumption) ?_
            rotate_left
            · intro wx hSw
              try dsimp only at hSw
              go_simp
              try with_reducible rfl
            try simp only [Act.put, List.getElem_toArray, List.getElem_cons_zero, List.getElem_cons_succ, List.setIfInBounds_toArray, List.set_cons_zero, List.set_cons_succ]
            refine wpAnyH_take (i := 15) (v := ?_) rfl (by kernel_rfl) (by kernel_rfl) (by kernel_rfl) (fun _ _ _ h => h.elim) (Or.inl ⟨by rfl, ?_⟩) (by assumption) ?_
            rotate_left
            · intro wx hSw
              try dsimp only at hSw
              go_simp
              try with_reducible rfl
            try simp only [Act.put, List.getElem_toArray, List.getElem_cons_zero, List.getElem_cons_succ, List.setIfInBounds_toArray, List.set_cons_zero, List.set_cons_succ]
            refine wpAnyH_take (i := 16) (v := ?_) rfl (by kernel_rfl) (by kernel_rfl) (by kernel_rfl) (fun _ _ _ h => h.elim) (Or.inl ⟨by rfl, ?_⟩) (by assumption) ?_
            rotate_left
            · intro wx hSw
              try dsimp only at hSw
              go_simp
              try with_reducible rfl
            try simp only [Act.put, List.getElem_toArray, List.getElem_cons_zero, List.getElem_cons_succ, List.setIfInBounds_toArray, List.set_cons_zero, List.set_cons_succ]
            refine wpAnyH_take (i := 18) (v := ?_) rfl (by kernel_rfl) (by kernel_rfl) (by kernel_rfl) (fun _ _ _ h => h.elim) (Or.inl ⟨by rfl, ?_⟩) (by assumption) ?_
            rotate_left
            · intro wx hSw
              try dsimp only at hSw
              go_simp
              try with_reducible rfl
            try simp only [Act.put, List.getElem_toArray, List.getElem_cons_zero, List.getElem_cons_succ, List.setIfInBounds_toArray, List.set_cons_zero, List.set_cons_succ]
            refine wpAnyH_take (i := 19) (v := ?_) rfl (by kernel_rfl) (by kernel_rfl) (by kernel_rfl) (fun _ _ _ h => h.elim) (Or.inl ⟨by rfl, ?_⟩) (by assumption) ?_
            rotate_left
            · intro wx hSw
              try dsimp only at hSw
              go_simp
              try with_reducible rfl
            try simp only [Act.put, List.getElem_toArray, List.getElem_cons_zero, List.getElem_cons_succ, List.setIfInBounds_toArray, List.set_cons_zero, List.set_cons_succ]
            refine wpAnyH_ready (rs := [17]) (by kernel_rfl) (by simp) ?_
            refine AllReadyH.cons rfl (fun K hK => ?_) ?_
            · go_simp
              refine HLe.out.mono ?_
              rintro e v1 ⟨rfl, hv1⟩
              have hv2 := hv1.symm
              subst hv2
              try go_wp2_with fail
              refine hK.out _ _ ?_ (fun hHeld => ?_)
              · rfl
              clear hK K
              try simp only [Act.put, List.getElem_toArray, List.getElem_cons_zero, List.getElem_cons_succ, List.setIfInBounds_toArray, List.set_cons_zero, List.set_cons_succ]
              refine wpAnyH_take (i := 20) (v := ?_) rfl (by kernel_rfl) (by kernel_rfl) (by kernel_rfl) (fun _ _ _ h => h.elim) (Or.inl ⟨by rfl, ?_⟩) (by assumption) ?_
              rotate_left
              · intro wx hSw
                try dsimp only at hSw
                go_simp
                try with_reducible rfl
              try simp only [Act.put, List.getElem_toArray, List.getElem_cons_zero, List.getElem_cons_succ, List.setIfInBounds_toArray, List.set_cons_zero, List.set_cons_succ]
              refine wpAnyH_take (i := 21) (v := ?_) rfl (by kernel_rfl) (by kernel_rfl) (by kernel_rfl) (fun _ _ _ h => h.elim) (Or.inl ⟨by rfl, ?_⟩) (by assumption) ?_
              rotate_left
              · intro wx hSw
                try dsimp only at hSw
                go_simp
                try with_reducible rfl
              try simp only [Act.put, List.getElem_toArray, List.getElem_cons_zero, List.getElem_cons_succ, List.setIfInBounds_toArray, List.set_cons_zero, List.set_cons_succ]
              refine wpAnyH_done (by kernel_rfl) ?_ _
              dsimp only [Only, Exit.then]
              have cz := HCk.out T.drew HBt.out.drew
              have HAd := hide (HAt.out.upto ((Below.refl _ _).drew))
              have HXd := hide (HXt.out.upto ((Below.refl _ _).drew))
              go_wp2_with fail
              refine (HAd.out.pop0).mono ?_
              rintro e w5 ⟨rfl, hb5⟩
              have x5 := (HXd.out.upto hb5).upto (box1 w5 (.cells #[.int .i64 0, .int .i64 0] 26))
              obtain ⟨x5a, x5b⟩ := x5.c
              have HA5 := hide ((HAd.out.upto hb5).upto (box1 w5 (.cells #[.int .i64 0, .int .i64 0] 26)))
              have HB5 := hide (bt (bt HBt.out.drew hb5) (box1 w5 (.cells #[.int .i64 0, .int .i64 0] 26)))
              clear hb5 x5
              go_wp2_with fail
              go_roundw
              case rel => exact ⟨k + 1, by go_num, by omega, by omega, ⟨u, n, [], HA5.out, by have := HNn.out; omega, by simp⟩, HB5.out⟩
              case measure => simp [intOf]; omega
            exact AllReadyH.nil
          · have HL0b : Hid (0 < l.length) := hide hl0
            clear hl0 hll
            go_wp2_with fail
            have hlenb : (l).length ≤ 1000 := by have := HLnb.out; omega
            refine (first_is _ _ _ HAb.out.a hlenb).mono ?_
            rintro e wfb ⟨rb, rfl, hFb, hbfb⟩
            obtain ⟨ib, rfl, hib⟩ := hFb.some HL0b.out
            have HFb := hide hFb
            have HAfb := hide (HAb.out.upto hbfb)
            have HBfb := hide (bt HBb.out hbfb)
            clear hFb hbfb
            go_wp2_with fail
            refine (HAfb.out.top HL0b.out HFb.out).mono ?_
            rintro e wtb ⟨rfl, hbtb⟩
            have HAtb := hide ((HAfb.out.upto hbtb).upto (box1 wtb (.cells #[.int .i64 (nth (l) ib).k, .int .i64 (nth (l) ib).n] 26)))
            have HBtb := hide (bt (bt HBfb.out hbtb) (box1 wtb (.cells #[.int .i64 (nth (l) ib).k, .int .i64 (nth (l) ib).n] 26)))
            have xtb := B2.new wtb (nth (l) ib).k (nth (l) ib).n
            have ztb : w.heap.size < wtb.heap.size := Nat.lt_of_lt_of_le HAfb.out.h.own.1 hbtb.size
            clear hbtb
            obtain ⟨Tb, hTb⟩ : ∃ T, wtb.alloc (.cells #[.int .i64 (nth (l) ib).k, .int .i64 (nth (l) ib).n] 26) = T := ⟨_, rfl⟩
            rw [hTb] at HAtb HBtb xtb
            have HTb := hide hTb
            clear hTb
            obtain ⟨gb, cpb, hvb, hcpb, hcmb⟩ := HAtb.out.a.form HL0b.out
            have aab := HAtb.out.a
            rw [hvb] at aab
            obtain ⟨y0b, y1b⟩ := aab.at (nth_get hib)
            obtain ⟨x0b, x1b⟩ := xtb.c
            have HLeb := hide (hlen_is _ _ _ _ Tb.drew (HAtb.out.h.upto ((Below.refl _ _).drew)))
            have hilb : (ib : Int) < ((l).length : Nat) := by omega
            have hieb : (0 : Int) ≤ (ib : Nat) := by omega
            have HXtb := hide xtb
            clear aab xtb
            subst hvb
            go_wp2_with (rw [HTb.out])
            refine wp_only ?_
            refine wp_region_held_drew (S := fun wx => wx = Tb.drew) (by kernel_rfl) rfl (fun hHeld => ?_)
            refine wpAnyH_take (i := 0) (v := ?_) rfl (by kernel_rfl) (by kernel_rfl) (by kernel_rfl) (fun _ _ _ h => h.elim) (Or.inl ⟨by rfl, ?_⟩) (by assumption) ?_
            rotate_left
            · intro wx hSw
              try dsimp only at hSw
              go_simp
              try with_reducible rfl
            try simp only [Act.put, List.getElem_toArray, List.getElem_cons_zero, List.getElem_cons_succ, List.setIfInBounds_toArray, List.set_cons_zero, List.set_cons_succ]
            refine wpAnyH_take (i := 1) (v := ?_) rfl (by kernel_rfl) (by kernel_rfl) (by kernel_rfl) (fun _ _ _ h => h.elim) (Or.inl ⟨by rfl, ?_⟩) (by assumption) ?_
            rotate_left
            · intro wx hSw
              try dsimp only at hSw
              go_simp
              try with_reducible rfl
            try simp only [Act.put, List.getElem_toArray, List.getElem_cons_zero, List.getElem_cons_succ, List.setIfInBounds_toArray, List.set_cons_zero, List.set_cons_succ]
            refine wpAnyH_take (i := 2) (v := ?_) rfl (by kernel_rfl) (by kernel_rfl) (by kernel_rfl) (fun _ _ _ h => h.elim) (Or.inl ⟨by rfl, ?_⟩) (by assumption) ?_
            rotate_left
            · intro wx hSw
              try dsimp only at hSw
              go_simp
              try with_reducible rfl
            try simp only [Act.put, List.getElem_toArray, List.getElem_cons_zero, List.getElem_cons_succ, List.setIfInBounds_toArray, List.set_cons_zero, List.set_cons_succ]
            refine wpAnyH_take (i := 3) (v := ?_) rfl (by kernel_rfl) (by kernel_rfl) (by kernel_rfl) (fun _ _ _ h => h.elim) (Or.inl ⟨by rfl, ?_⟩) (by assumption) ?_
            rotate_left
            · intro wx hSw
              try dsimp only at hSw
              go_simp
              try with_reducible rfl
            try simp only [Act.put, List.getElem_toArray, List.getElem_cons_zero, List.getElem_cons_succ, List.setIfInBounds_toArray, List.set_cons_zero, List.set_cons_succ]
            refine wpAnyH_take (i := 4) (v := ?_) rfl (by kernel_rfl) (by kernel_rfl) (by kernel_rfl) (fun _ _ _ h => h.elim) (Or.inl ⟨by rfl, ?_⟩) (by assumption) ?_
            rotate_left
            · intro wx hSw
              try dsimp only at hSw
              go_simp
              try with_reducible rfl
            try simp only [Act.put, List.getElem_toArray, List.getElem_cons_zero, List.getElem_cons_succ, List.setIfInBounds_toArray, List.set_cons_zero, List.set_cons_succ]
            refine wpAnyH_take (i := 5) (v := ?_) rfl (by kernel_rfl) (by kernel_rfl) (by kernel_rfl) (fun _ _ _ h => h.elim) (Or.inl ⟨by rfl, ?_⟩) (by assumption) ?_
            rotate_left
            · intro wx hSw
              try dsimp only at hSw
              go_simp
              try with_reducible rfl
            try simp only [Act.put, List.getElem_toArray, List.getElem_cons_zero, List.getElem_cons_succ, List.setIfInBounds_toArray, List.set_cons_zero, List.set_cons_succ]
            refine wpAnyH_take (i := 6) (v := ?_) rfl (by kernel_rfl) (by kernel_rfl) (by kernel_rfl) (fun _ _ _ h => h.elim) (Or.inl ⟨by rfl, ?_⟩) (by assumption) ?_
            rotate_left
            · intro wx hSw
              try dsimp only at hSw
              go_simp
              try with_reducible rfl
            try simp only [Act.put, List.getElem_toArray, List.getElem_cons_zero, List.getElem_cons_succ, List.setIfInBounds_toArray, List.set_cons_zero, List.set_cons_succ]
            refine wpAnyH_take (i := 7) (v := ?_) rfl (by kernel_rfl) (by kernel_rfl) (by kernel_rfl) (fun _ _ _ h => h.elim) (Or.inl ⟨by rfl, ?_⟩) (by assumption) ?_
            rotate_left
            · intro wx hSw
              try dsimp only at hSw
              go_simp
              try with_reducible rfl
            try simp only [Act.put, List.getElem_toArray, List.getElem_cons_zero, List.getElem_cons_succ, List.setIfInBounds_toArray, List.set_cons_zero, List.set_cons_succ]
            refine wpAnyH_take (i := 8) (v := ?_) rfl (by kernel_rfl) (by kernel_rfl) (by kernel_rfl) (fun _ _ _ h => h.elim) (Or.inl ⟨by rfl, ?_⟩) (by assumption) ?_
            rotate_left
            · intro wx hSw
              try dsimp only at hSw
              go_simp
              try with_reducible rfl
            try simp only [Act.put, List.getElem_toArray, List.getElem_cons_zero, List.getElem_cons_succ, List.setIfInBounds_toArray, List.set_cons_zero, List.set_cons_succ]
            refine wpAnyH_take (i := 9) (v := ?_) rfl (by kernel_rfl) (by kernel_rfl) (by kernel_rfl) (fun _ _ _ h => h.elim) (Or.inl ⟨by rfl, ?_⟩) (by assumption) ?_
            rotate_left
            · intro wx hSw
              try dsimp only at hSw
              go_simp
              try with_reducible rfl
            try simp only [Act.put, List.getElem_toArray, List.getElem_cons_zero, List.getElem_cons_succ, List.setIfInBounds_toArray, List.set_cons_zero, List.set_cons_succ]
            refine wpAnyH_take (i := 10) (v := ?_) rfl (by kernel_rfl) (by kernel_rfl) (by kernel_rfl) (fun _ _ _ h => h.elim) (Or.inl ⟨by rfl, ?_⟩) (by assumption) ?_
            rotate_left
            · intro wx hSw
              try dsimp only at hSw
              go_simp
              try with_reducible rfl
            try simp only [Act.put, List.getElem_toArray, List.getElem_cons_zero, List.getElem_cons_succ, List.setIfInBounds_toArray, List.set_cons_zero, List.set_cons_succ]
            refine wpAnyH_take (i := 11) (v := ?_) rfl (by kernel_rfl) (by kernel_rfl) (by kernel_rfl) (fun _ _ _ h => h.elim) (Or.inl ⟨by rfl, ?_⟩) (by assumption) ?_
            rotate_left
            · intro wx hSw
              try dsimp only at hSw
              go_simp
              try with_reducible rfl
            try simp only [Act.put, List.getElem_toArray, List.getElem_cons_zero, List.getElem_cons_succ, List.setIfInBounds_toArray, List.set_cons_zero, List.set_cons_succ]
            refine wpAnyH_take (i := 12) (v := ?_) rfl (by kernel_rfl) (by kernel_rfl) (by kernel_rfl) (fun _ _ _ h => h.elim) (Or.inl ⟨by rfl, ?_⟩) (by assumption) ?_
            rotate_left
            · intro wx hSw
              try dsimp only at hSw
              go_simp
              try with_reducible rfl
            try simp only [Act.put, List.getElem_toArray, List.getElem_cons_zero, List.getElem_cons_succ, List.setIfInBounds_toArray, List.set_cons_zero, List.set_cons_succ]
            refine wpAnyH_take (i := 13) (v := ?_) rfl (by kernel_rfl) (by kernel_rfl) (by kernel_rfl) (fun _ _ _ h => h.elim) (Or.inl ⟨by rfl, ?_⟩) (by assumption) ?_
            rotate_left
            · intro wx hSw
              try dsimp only at hSw
              go_simp
              try with_reducible rfl
            try simp only [Act.put, List.getElem_toArray, List.getElem_cons_zero, List.getElem_cons_succ, List.setIfInBounds_toArray, List.set_cons_zero, List.set_cons_succ]
            refine wpAnyH_take (i := 14) (v := ?_) rfl (by kernel_rfl) (by kernel_rfl) (by kernel_rfl) (fun _ _ _ h => h.elim) (Or.inl ⟨by rfl, ?_⟩) (by assumption) ?_
            rotate_left
            · intro wx hSw
              try dsimp only at hSw
              go_simp
              try with_reducible rfl
            try simp only [Act.put, List.getElem_toArray, List.getElem_cons_zero, List.getElem_cons_succ, List.setIfInBounds_toArray, List.set_cons_zero, List.set_cons_succ]
            refine wpAnyH_take (i := 15) (v := ?_) rfl (by kernel_rfl) (by kernel_rfl) (by kernel_rfl) (fun _ _ _ h => h.elim) (Or.inl ⟨by rfl, ?_⟩) (by assumption) ?_
            rotate_left
            · intro wx hSw
              try dsimp only at hSw
              go_simp
              try with_reducible rfl
            try simp only [Act.put, List.getElem_toArray, List.getElem_cons_zero, List.getElem_cons_succ, List.setIfInBounds_toArray, List.set_cons_zero, List.set_cons_succ]
            refine wpAnyH_take (i := 16) (v := ?_) rfl (by kernel_rfl) (by kernel_rfl) (by kernel_rfl) (fun _ _ _ h => h.elim) (Or.inl ⟨by rfl, ?_⟩) (by assumption) ?_
            rotate_left
            · intro wx hSw
              try dsimp only at hSw
              go_simp
              try with_reducible rfl
            try simp only [Act.put, List.getElem_toArray, List.getElem_cons_zero, List.getElem_cons_succ, List.setIfInBounds_toArray, List.set_cons_zero, List.set_cons_succ]
            refine wpAnyH_take (i := 18) (v := ?_) rfl (by kernel_rfl) (by kernel_rfl) (by kernel_rfl) (fun _ _ _ h => h.elim) (Or.inl ⟨by rfl, ?_⟩) (by assumption) ?_
            rotate_left
            · intro wx hSw
              try dsimp only at hSw
              go_simp
              try with_reducible rfl
            try simp only [Act.put, List.getElem_toArray, List.getElem_cons_zero, List.getElem_cons_succ, List.setIfInBounds_toArray, List.set_cons_zero, List.set_cons_succ]
            refine wpAnyH_take (i := 19) (v := ?_) rfl (by kernel_rfl) (by kernel_rfl) (by kernel_rfl) (fun _ _ _ h => h.elim) (Or.inl ⟨by rfl, ?_⟩) (by assumption) ?_
            rotate_left
            · intro wx hSw
              try dsimp only at hSw
              go_simp
              try with_reducible rfl
            try simp only [Act.put, List.getElem_toArray, List.getElem_cons_zero, List.getElem_cons_succ, List.setIfInBounds_toArray, List.set_cons_zero, List.set_cons_succ]
            refine wpAnyH_ready (rs := [17]) (by kernel_rfl) (by simp) ?_
            refine AllReadyH.cons rfl (fun K hK => ?_) ?_
            · go_simp
              refine HLeb.out.mono ?_
              rintro e v1 ⟨rfl, hv1⟩
              have hv2 := hv1.symm
              subst hv2
              try go_wp2_with fail
              refine hK.out _ _ ?_ (fun hHeld => ?_)
              · rfl
              clear hK K
              try simp only [Act.put, List.getElem_toArray, List.getElem_cons_zero, List.getElem_cons_succ, List.setIfInBounds_toArray, List.set_cons_zero, List.set_cons_succ]
              refine wpAnyH_take (i := 20) (v := ?_) rfl (by kernel_rfl) (by kernel_rfl) (by kernel_rfl) (fun _ _ _ h => h.elim) (Or.inl ⟨by rfl, ?_⟩) (by assumption) ?_
              rotate_left
              · intro wx hSw
                try dsimp only at hSw
                go_simp
                try with_reducible rfl
              try simp only [Act.put, List.getElem_toArray, List.getElem_cons_zero, List.getElem_cons_succ, List.setIfInBounds_toArray, List.set_cons_zero, List.set_cons_succ]
              refine wpAnyH_take (i := 21) (v := ?_) rfl (by kernel_rfl) (by kernel_rfl) (by kernel_rfl) (fun _ _ _ h => h.elim) (Or.inl ⟨by rfl, ?_⟩) (by assumption) ?_
              rotate_left
              · intro wx hSw
                try dsimp only at hSw
                go_simp
                try with_reducible rfl
              try simp only [Act.put, List.getElem_toArray, List.getElem_cons_zero, List.getElem_cons_succ, List.setIfInBounds_toArray, List.set_cons_zero, List.set_cons_succ]
              refine wpAnyH_done (by kernel_rfl) ?_ _
              dsimp only [Only, Exit.then]
              have cz := HCk.out Tb.drew HBtb.out.drew
              have HAd := hide (HAtb.out.upto ((Below.refl _ _).drew))
              have HXd := hide (HXtb.out.upto ((Below.refl _ _).drew))
              have hzd : w.heap.size ≤ Tb.drew.heap.size := HBtb.out.size
              go_wp2_with fail
              refine (HAd.out.pop hzd HL0b.out hlenb HFb.out).mono ?_
              rintro e w5 ⟨rfl, u5, h5, a5, o5, b5, t5⟩
              have x5 : B2 w5 wtb.heap.size (nth l ib).k (nth l ib).n := by
                obtain ⟨lx, q1, q2, _⟩ := HAd.out.h
                refine HXd.out.kept t5 (fun e => ?_)
                rcases e with e | e
                · omega
                · exact HXd.out.ne_row q2 (by decide) e
              have x6 := x5.upto (box1 w5 (.cells #[.int .i64 (nth l ib).k, .int .i64 (nth l ib).n] 26))
              obtain ⟨x6a, x6b⟩ := x6.c
              have HXN := hide (B2.new w5 (nth l ib).k (nth l ib).n)
              have h6 := h5.upto (box1 w5 (.cells #[.int .i64 (nth l ib).k, .int .i64 (nth l ib).n] 26))
              have a6 := a5.upto (box1 w5 (.cells #[.int .i64 (nth l ib).k, .int .i64 (nth l ib).n] 26))
              have b6 : Below w.heap.size Tb.drew (w5.alloc (.cells #[.int .i64 (nth l ib).k, .int .i64 (nth l ib).n] 26)) := b5.alloc (by have := b5.size; omega) _
              obtain ⟨n6a, n6b⟩ := HXN.out.c
              obtain ⟨W6, hW6⟩ : ∃ W6, w5.alloc (.cells #[.int .i64 (nth l ib).k, .int .i64 (nth l ib).n] 26) = W6 := ⟨_, rfl⟩
              rw [hW6] at x6a x6b h6 a6 b6 n6a n6b
              have HW6 := hide hW6
              have H6 := hide (h6.upto ((Below.refl _ _).drew))
              have HA6 := hide (a6.upto ((Below.refl _ _).drew))
              have HB6 := hide b6.drew
              clear x5 x6 h5 a5 b5 t5 h6 a6 b6 hW6 HXN
              obtain ⟨q, hqe⟩ : ∃ q, ib + 1 = q := ⟨_, rfl⟩
              obtain ⟨ad, had⟩ : ∃ ad : Addr, (if cpb = q then some (⟨gb, 0, none⟩ : Addr) else some ⟨gb, q * 2, none⟩) = some ad := by split <;> exact ⟨_, rfl⟩
              have hcut := fun c => HA6.out.cut hib hlenb 28 ad c (fun h => by
                rw [if_neg (by omega)] at had
                rw [← Option.some.inj had, hqe])
              rw [hqe] at hcut
              obtain ⟨v7, w7, hrun, al7, gr7, ow7⟩ := hcut (cpb - q)
              obtain ⟨hac7, hb7⟩ := HAd.out.shrink hzd rfl H6.out HA6.out o5 HB6.out al7 gr7 ow7
              have HR := hide (show (Builtin.append_ #[28, 28] 28 #[.slice (some ⟨gb, 0, none⟩) ib ib, .slice (some ad) (l.length - q) (cpb - q)]).run Try.prog W6.drew = .ok v7 w7 from hrun)
              have HA7 := hide hac7
              have HB7 := hide ((HBtb.out.drew).trans hb7)
              have HL7 : Hid ((del l ib).length ≤ k + 1) := hide (by rw [del_len hib]; have := HLnb.out; omega)
              clear hcut hrun al7 gr7 ow7 hac7 hb7
              have hqi : IntKind.i64.wrap ((ib : Int) + 1) = (q : Nat) := by rw [IntKind.wrap_i64]; omega
              have hql : (q : Int) ≤ (l.length : Nat) := by omega
              have hic : (ib : Int) ≤ (cpb : Nat) := by omega
              have hlc : (l.length : Int) ≤ (cpb : Nat) := by omega
              have HQe := hide hqe
              clear hqe
              go_wp2_with (rw [HW6.out])
              refine wp_only ?_
              refine wp_region_held_drew (S := fun wx => True) (by kernel_rfl) trivial (fun hHeld => ?_)
              refine wpAnyH_take (i := 0) (v := ?_) rfl (by kernel_rfl) (by kernel_rfl) (by kernel_rfl) (fun _ _ _ h => h.elim) (Or.inl ⟨by rfl, ?_⟩) (by assumption) ?_
              rotate_left
              · intro wx hSw
                try dsimp only at hSw
                go_simp
                try with_reducible rfl
              try simp only [Act.put, List.getElem_toArray, List.getElem_cons_zero, List.getElem_cons_succ, List.setIfInBounds_toArray, List.set_cons_zero, List.set_cons_succ]
              refine wpAnyH_take (i := 1) (v := ?_) rfl (by kernel_rfl) (by kernel_rfl) (by kernel_rfl) (fun _ _ _ h => h.elim) (Or.inl ⟨by rfl, ?_⟩) (by assumption) ?_
              rotate_left
              · intro wx hSw
                try dsimp only at hSw
                go_simp
                try with_reducible rfl
              try simp only [Act.put, List.getElem_toArray, List.getElem_cons_zero, List.getElem_cons_succ, List.setIfInBounds_toArray, List.set_cons_zero, List.set_cons_succ]
              refine wpAnyH_take (i := 2) (v := ?_) rfl (by kernel_rfl) (by kernel_rfl) (by kernel_rfl) (fun _ _ _ h => h.elim) (Or.inl ⟨by rfl, ?_⟩) (by assumption) ?_
              rotate_left
              · intro wx hSw
                try dsimp only at hSw
                go_simp
                try with_reducible rfl
              try simp only [Act.put, List.getElem_toArray, List.getElem_cons_zero, List.getElem_cons_succ, List.setIfInBounds_toArray, List.set_cons_zero, List.set_cons_succ]
              refine wpAnyH_take (i := 3) (v := ?_) rfl (by kernel_rfl) (by kernel_rfl) (by kernel_rfl) (fun _ _ _ h => h.elim) (Or.inl ⟨by rfl, ?_⟩) (by assumption) ?_
              rotate_left
              · intro wx hSw
                try dsimp only at hSw
                go_simp
                try with_reducible rfl
              try simp only [Act.put, List.getElem_toArray, List.getElem_cons_zero, List.getElem_cons_succ, List.setIfInBounds_toArray, List.set_cons_zero, List.set_cons_succ]
              refine wpAnyH_take (i := 4) (v := ?_) rfl (by kernel_rfl) (by kernel_rfl) (by kernel_rfl) (fun _ _ _ h => h.elim) (Or.inl ⟨by rfl, ?_⟩) (by assumption) ?_
              rotate_left
              · intro wx hSw
                try dsimp only at hSw
                go_simp
                try with_reducible rfl
              try simp only [Act.put, List.getElem_toArray, List.getElem_cons_zero, List.getElem_cons_succ, List.setIfInBounds_toArray, List.set_cons_zero, List.set_cons_succ]
              refine wpAnyH_take (i := 5) (v := ?_) rfl (by kernel_rfl) (by kernel_rfl) (by kernel_rfl) (fun _ _ _ h => h.elim) (Or.inl ⟨by rfl, ?_⟩) (by assumption) ?_
              rotate_left
              · intro wx hSw
                try dsimp only at hSw
                go_simp
                try with_reducible rfl
              try simp only [Act.put, List.getElem_toArray, List.getElem_cons_zero, List.getElem_cons_succ, List.setIfInBounds_toArray, List.set_cons_zero, List.set_cons_succ]
              refine wpAnyH_take (i := 6) (v := ?_) rfl (by kernel_rfl) (by kernel_rfl) (by kernel_rfl) (fun _ _ _ h => h.elim) (Or.inl ⟨by rfl, ?_⟩) (by assumption) ?_
              rotate_left
              · intro wx hSw
                try dsimp only at hSw
                go_simp
                try with_reducible rfl
              try simp only [Act.put, List.getElem_toArray, List.getElem_cons_zero, List.getElem_cons_succ, List.setIfInBounds_toArray, List.set_cons_zero, List.set_cons_succ]
              refine wpAnyH_take (i := 7) (v := ?_) rfl (by kernel_rfl) (by kernel_rfl) (by kernel_rfl) (fun _ _ _ h => h.elim) (Or.inl ⟨by rfl, ?_⟩) (by assumption) ?_
              rotate_left
              · intro wx hSw
                try dsimp only at hSw
                go_simp
                try with_reducible rfl
              try simp only [Act.put, List.getElem_toArray, List.getElem_cons_zero, List.getElem_cons_succ, List.setIfInBounds_toArray, List.set_cons_zero, List.set_cons_succ]
              refine wpAnyH_ready (rs := [8]) (by kernel_rfl) (by simp) ?_
              refine AllReadyH.cons rfl (fun K hK => ?_) ?_
              · refine step_append_run rfl _ _ 28 rfl _ _ rfl rfl HR.out ?_
                refine hK.out _ _ ?_ (fun hHeld => ?_)
                · trivial
                clear hK K
                try simp only [Act.put, List.getElem_toArray, List.getElem_cons_zero, List.getElem_cons_succ, List.setIfInBounds_toArray, List.set_cons_zero, List.set_cons_succ]
                refine wpAnyH_take (i := 9) (v := ?_) rfl (by kernel_rfl) (by kernel_rfl) (by kernel_rfl) (fun _ _ _ h => h.elim) (Or.inl ⟨by rfl, ?_⟩) (by assumption) ?_
                rotate_left
                · intro wx hSw
                  try dsimp only at hSw
                  go_simp
                  try with_reducible rfl
                try simp only [Act.put, List.getElem_toArray, List.getElem_cons_zero, List.getElem_cons_succ, List.setIfInBounds_toArray, List.set_cons_zero, List.set_cons_succ]
                refine wpAnyH_done (by kernel_rfl) ?_ _
                dsimp only [Only, Exit.then]
                go_wp2_with fail
                go_roundw
                case rel => exact ⟨k + 1, by go_num, by omega, by omega, ⟨_, n, _, HA7.out, by have := HNn.out; omega, HL7.out⟩, HB7.out⟩
                case measure => simp [intOf]; omega
              exact AllReadyH.nil
            exact AllReadyH.nil
        · have hmb : (z.tmod 3 != 0) = true := by simpa using hm
          have hac1 := HAc.out.upto (box1 wo (.cells #[.int .i64 z, .int .i64 (k : Nat)] 26))
          have hz1 : w.heap.size ≤ (wo.alloc (.cells #[.int .i64 z, .int .i64 (k : Nat)] 26)).heap.size := by have := HB.out.size; simp; omega
          have x1 := B2.new wo z (k : Nat)
          have HB1' := hide (bt HB.out (box1 wo (.cells #[.int .i64 z, .int .i64 (k : Nat)] 26)))
          obtain ⟨W1, hW1⟩ : ∃ W1, wo.alloc (.cells #[.int .i64 z, .int .i64 (k : Nat)] 26) = W1 := ⟨_, rfl⟩
          rw [hW1] at hac1 hz1 x1 HB1'
          have HW1 := hide hW1
          have HX1 := hide x1
          have HA1' := hide hac1
          have HZ1 := hide hz1
          obtain ⟨x1a, x1b⟩ := x1.c
          clear hW1 hac1 x1 hz1
          go_wp2_with (rw [HW1.out])
          refine (push_is _ _ _ _ z (k : Nat) W1 HA1'.out.h (by have := HA1'.out.n0; omega) (by omega)).mono ?_
          rintro e w2 ⟨rfl, hp⟩
          have x2 : B2 w2 wo.heap.size z (k : Nat) := by
            obtain ⟨u9, q1, q2, q3⟩ := id hp
            obtain ⟨o1, o2, o3⟩ := HAc.out.h.own
            exact HX1.out.kept q2 (fun e => by rcases e with e | e; omega; have := o2 _ e; omega)
          obtain ⟨x2a, x2b⟩ := x2.c
          obtain ⟨v4, w4, hrun, al4, gr4, ow4⟩ := (((HA1'.out.pushed HZ1.out hp).choose_spec.2.1).upto (box1 w2 (.cells #[.int .i64 z, .int .i64 (k : Nat)] 26))).append [⟨z, (k : Nat), n⟩] ⟨w2.heap.size, 0, none⟩ 1 28 (fun j u hu => by
              rw [Addr.add_lit, Nat.zero_add, cell_of_row _ w2.heap.size j _ _ _ (heap_alloc_new w2 _)]
              simpa [kc] using hu) (by simp) (by simp; omega)
          obtain ⟨⟨u4, hac4⟩, hb4⟩ := HA1'.out.grow HZ1.out hp al4 gr4 ow4
          have HAa := hide hac4
          have HBa := hide (HB1'.out.trans hb4)
          have HR := hide hrun
          have HLna : Hid ((l ++ [(⟨z, (k : Nat), n⟩ : It)]).length ≤ k + 1) := hide (by simp; omega)
          have HL0a : Hid (0 < (l ++ [(⟨z, (k : Nat), n⟩ : It)]).length) := hide (by simp)
          clear hp x2 al4 gr4 ow4 hac4 hb4
          obtain ⟨La, hLa⟩ : ∃ La, l ++ [(⟨z, (k : Nat), n⟩ : It)] = La := ⟨_, rfl⟩
          rw [hLa] at HAa HLna HL0a
          clear hLa hrun
          go_wp2_with (at_builtin; refine wpList_append_run rfl _ _ 28 rfl _ _ rfl rfl HR.out ?_)
          have hlena : (La).length ≤ 1000 := by have := HLna.out; omega
          refine (first_is _ _ _ HAa.out.a hlena).mono ?_
          rintro e wfa ⟨ra, rfl, hFa, hbfa⟩
          obtain ⟨ia, rfl, hia⟩ := hFa.some HL0a.out
          have HFa := hide hFa
          have HAfa := hide (HAa.out.upto hbfa)
          have HBfa := hide (bt HBa.out hbfa)
          clear hFa hbfa
          go_wp2_with fail
          refine (HAfa.out.top HL0a.out HFa.out).mono ?_
          rintro e wta ⟨rfl, hbta⟩
          have HAta := hide ((HAfa.out.upto hbta).upto (box1 wta (.cells #[.int .i64 (nth (La) ia).k, .int .i64 (nth (La) ia).n] 26)))
          have HBta := hide (bt (bt HBfa.out hbta) (box1 wta (.cells #[.int .i64 (nth (La) ia).k, .int .i64 (nth (La) ia).n] 26)))
          have xta := B2.new wta (nth (La) ia).k (nth (La) ia).n
          have zta : w.heap.size < wta.heap.size := Nat.lt_of_lt_of_le HAfa.out.h.own.1 hbta.size
          clear hbta
          obtain ⟨Ta, hTa⟩ : ∃ T, wta.alloc (.cells #[.int .i64 (nth (La) ia).k, .int .i64 (nth (La) ia).n] 26) = T := ⟨_, rfl⟩
          rw [hTa] at HAta HBta xta
          have HTa := hide hTa
          clear hTa
          obtain ⟨ga, cpa, hva, hcpa, hcma⟩ := HAta.out.a.form HL0a.out
          have aaa := HAta.out.a
          rw [hva] at aaa
          obtain ⟨y0a, y1a⟩ := aaa.at (nth_get hia)
          obtain ⟨x0a, x1a⟩ := xta.c
          have HLea := hide (hlen_is _ _ _ _ Ta.drew (HAta.out.h.upto ((Below.refl _ _).drew)))
          have hila : (ia : Int) < ((La).length : Nat) := by omega
          have hiea : (0 : Int) ≤ (ia : Nat) := by omega
          have HXta := hide xta
          clear aaa xta
          subst hva
          go_wp2_with (rw [HTa.out])
          refine wp_only ?_
          refine wp_region_held_drew (S := fun wx => wx = Ta.drew) (by kernel_rfl) rfl (fun hHeld => ?_)
          refine wpAnyH_take (i := 0) (v := ?_) rfl (by kernel_rfl) (by kernel_rfl) (by kernel_rfl) (fun _ _ _ h => h.elim) (Or.inl ⟨by rfl, ?_⟩) (by assumption) ?_
          rotate_left
          · intro wx hSw
            try dsimp only at hSw
            go_simp
            try with_reducible rfl
          try simp only [Act.put, List.getElem_toArray, List.getElem_cons_zero, List.getElem_cons_succ, List.setIfInBounds_toArray, List.set_cons_zero, List.set_cons_succ]
          refine wpAnyH_take (i := 1) (v := ?_) rfl (by kernel_rfl) (by kernel_rfl) (by kernel_rfl) (fun _ _ _ h => h.elim) (Or.inl ⟨by rfl, ?_⟩) (by assumption) ?_
          rotate_left
          · intro wx hSw
            try dsimp only at hSw
            go_simp
            try with_reducible rfl
          try simp only [Act.put, List.getElem_toArray, List.getElem_cons_zero, List.getElem_cons_succ, List.setIfInBounds_toArray, List.set_cons_zero, List.set_cons_succ]
          refine wpAnyH_take (i := 2) (v := ?_) rfl (by kernel_rfl) (by kernel_rfl) (by kernel_rfl) (fun _ _ _ h => h.elim) (Or.inl ⟨by rfl, ?_⟩) (by assumption) ?_
          rotate_left
          · intro wx hSw
            try dsimp only at hSw
            go_simp
            try with_reducible rfl
          try simp only [Act.put, List.getElem_toArray, List.getElem_cons_zero, List.getElem_cons_succ, List.setIfInBounds_toArray, List.set_cons_zero, List.set_cons_succ]
          refine wpAnyH_take (i := 3) (v := ?_) rfl (by kernel_rfl) (by kernel_rfl) (by kernel_rfl) (fun _ _ _ h => h.elim) (Or.inl ⟨by rfl, ?_⟩) (by assumption) ?_
          rotate_left
          · intro wx hSw
            try dsimp only at hSw
            go_simp
            try with_reducible rfl
          try simp only [Act.put, List.getElem_toArray, List.getElem_cons_zero, List.getElem_cons_succ, List.setIfInBounds_toArray, List.set_cons_zero, List.set_cons_succ]
          refine wpAnyH_take (i := 4) (v := ?_) rfl (by kernel_rfl) (by kernel_rfl) (by kernel_rfl) (fun _ _ _ h => h.elim) (Or.inl ⟨by rfl, ?_⟩) (by assumption) ?_
          rotate_left
          · intro wx hSw
            try dsimp only at hSw
            go_simp
            try with_reducible rfl
          try simp only [Act.put, List.getElem_toArray, List.getElem_cons_zero, List.getElem_cons_succ, List.setIfInBounds_toArray, List.set_cons_zero, List.set_cons_succ]
          refine wpAnyH_take (i := 5) (v := ?_) rfl (by kernel_rfl) (by kernel_rfl) (by kernel_rfl) (fun _ _ _ h => h.elim) (Or.inl ⟨by rfl, ?_⟩) (by assumption) ?_
          rotate_left
          · intro wx hSw
            try dsimp only at hSw
            go_simp
            try with_reducible rfl
          try simp only [Act.put, List.getElem_toArray, List.getElem_cons_zero, List.getElem_cons_succ, List.setIfInBounds_toArray, List.set_cons_zero, List.set_cons_succ]
          refine wpAnyH_take (i := 6) (v := ?_) rfl (by kernel_rfl) (by kernel_rfl) (by kernel_rfl) (fun _ _ _ h => h.elim) (Or.inl ⟨by rfl, ?_⟩) (by assumption) ?_
          rotate_left
          · intro wx hSw
            try dsimp only at hSw
            go_simp
            try with_reducible rfl
          try simp only [Act.put, List.getElem_toArray, List.getElem_cons_zero, List.getElem_cons_succ, List.setIfInBounds_toArray, List.set_cons_zero, List.set_cons_succ]
          refine wpAnyH_take (i := 7) (v := ?_) rfl (by kernel_rfl) (by kernel_rfl) (by kernel_rfl) (fun _ _ _ h => h.elim) (Or.inl ⟨by rfl, ?_⟩) (by assumption) ?_
          rotate_left
          · intro wx hSw
            try dsimp only at hSw
            go_simp
            try with_reducible rfl
          try simp only [Act.put, List.getElem_toArray, List.getElem_cons_zero, List.getElem_cons_succ, List.setIfInBounds_toArray, List.set_cons_zero, List.set_cons_succ]
          refine wpAnyH_take (i := 8) (v := ?_) rfl (by kernel_rfl) (by kernel_rfl) (by kernel_rfl) (fun _ _ _ h => h.elim) (Or.inl ⟨by rfl, ?_⟩) (by assumption) ?_
          rotate_left
          · intro wx hSw
            try dsimp only at hSw
            go_simp
            try with_reducible rfl
          try simp only [Act.put, List.getElem_toArray, List.getElem_cons_zero, List.getElem_cons_succ, List.setIfInBounds_toArray, List.set_cons_zero, List.set_cons_succ]
          refine wpAnyH_take (i := 9) (v := ?_) rfl (by kernel_rfl) (by kernel_rfl) (by kernel_rfl) (fun _ _ _ h => h.elim) (Or.inl ⟨by rfl, ?_⟩) (by assumption) ?_
          rotate_left
          · intro wx hSw
            try dsimp only at hSw
            go_simp
            try with_reducible rfl
          try simp only [Act.put, List.getElem_toArray, List.getElem_cons_zero, List.getElem_cons_succ, List.setIfInBounds_toArray, List.set_cons_zero, List.set_cons_succ]
          refine wpAnyH_take (i := 10) (v := ?_) rfl (by kernel_rfl) (by kernel_rfl) (by kernel_rfl) (fun _ _ _ h => h.elim) (Or.inl ⟨by rfl, ?_⟩) (by assumption) ?_
          rotate_left
          · intro wx hSw
            try dsimp only at hSw
            go_simp
            try with_reducible rfl
          try simp only [Act.put, List.getElem_toArray, List.getElem_cons_zero, List.getElem_cons_succ, List.setIfInBounds_toArray, List.set_cons_zero, List.set_cons_succ]
          refine wpAnyH_take (i := 11) (v := ?_) rfl (by kernel_rfl) (by kernel_rfl) (by kernel_rfl) (fun _ _ _ h => h.elim) (Or.inl ⟨by rfl, ?_⟩) (by assumption) ?_
          rotate_left
          · intro wx hSw
            try dsimp only at hSw
            go_simp
            try with_reducible rfl
          try simp only [Act.put, List.getElem_toArray, List.getElem_cons_zero, List.getElem_cons_succ, List.setIfInBounds_toArray, List.set_cons_zero, List.set_cons_succ]
          refine wpAnyH_take (i := 12) (v := ?_) rfl (by kernel_rfl) (by kernel_rfl) (by kernel_rfl) (fun _ _ _ h => h.elim) (Or.inl ⟨by rfl, ?_⟩) (by assumption) ?_
          rotate_left
          · intro wx hSw
            try dsimp only at hSw
            go_simp
            try with_reducible rfl
          try simp only [Act.put, List.getElem_toArray, List.getElem_cons_zero, List.getElem_cons_succ, List.setIfInBounds_toArray, List.set_cons_zero, List.set_cons_succ]
          refine wpAnyH_take (i := 13) (v := ?_) rfl (by kernel_rfl) (by kernel_rfl) (by kernel_rfl) (fun _ _ _ h => h.elim) (Or.inl ⟨by rfl, ?_⟩) (by assumption) ?_
          rotate_left
          · intro wx hSw
            try dsimp only at hSw
            go_simp
            try with_reducible rfl
          try simp only [Act.put, List.getElem_toArray, List.getElem_cons_zero, List.getElem_cons_succ, List.setIfInBounds_toArray, List.set_cons_zero, List.set_cons_succ]
          refine wpAnyH_take (i := 14) (v := ?_) rfl (by kernel_rfl) (by kernel_rfl) (by kernel_rfl) (fun _ _ _ h => h.elim) (Or.inl ⟨by rfl, ?_⟩) (by assumption) ?_
          rotate_left
          · intro wx hSw
            try dsimp only at hSw
            go_simp
            try with_reducible rfl
          try simp only [Act.put, List.getElem_toArray, List.getElem_cons_zero, List.getElem_cons_succ, List.setIfInBounds_toArray, List.set_cons_zero, List.set_cons_succ]
          refine wpAnyH_take (i := 15) (v := ?_) rfl (by kernel_rfl) (by kernel_rfl) (by kernel_rfl) (fun _ _ _ h => h.elim) (Or.inl ⟨by rfl, ?_⟩) (by assumption) ?_
          rotate_left
          · intro wx hSw
            try dsimp only at hSw
            go_simp
            try with_reducible rfl
          try simp only [Act.put, List.getElem_toArray, List.getElem_cons_zero, List.getElem_cons_succ, List.setIfInBounds_toArray, List.set_cons_zero, List.set_cons_succ]
          refine wpAnyH_take (i := 16) (v := ?_) rfl (by kernel_rfl) (by kernel_rfl) (by kernel_rfl) (fun _ _ _ h => h.elim) (Or.inl ⟨by rfl, ?_⟩) (by assumption) ?_
          rotate_left
          · intro wx hSw
            try dsimp only at hSw
            go_simp
            try with_reducible rfl
          try simp only [Act.put, List.getElem_toArray, List.getElem_cons_zero, List.getElem_cons_succ, List.setIfInBounds_toArray, List.set_cons_zero, List.set_cons_succ]
          refine wpAnyH_take (i := 18) (v := ?_) rfl (by kernel_rfl) (by kernel_rfl) (by kernel_rfl) (fun _ _ _ h => h.elim) (Or.inl ⟨by rfl, ?_⟩) (by assumption) ?_
          rotate_left
          · intro wx hSw
            try dsimp only at hSw
            go_simp
            try with_reducible rfl
          try simp only [Act.put, List.getElem_toArray, List.getElem_cons_zero, List.getElem_cons_succ, List.setIfInBounds_toArray, List.set_cons_zero, List.set_cons_succ]
          refine wpAnyH_take (i := 19) (v := ?_) rfl (by kernel_rfl) (by kernel_rfl) (by kernel_rfl) (fun _ _ _ h => h.elim) (Or.inl ⟨by rfl, ?_⟩) (by assumption) ?_
          rotate_left
          · intro wx hSw
            try dsimp only at hSw
            go_simp
            try with_reducible rfl
          try simp only [Act.put, List.getElem_toArray, List.getElem_cons_zero, List.getElem_cons_succ, List.setIfInBounds_toArray, List.set_cons_zero, List.set_cons_succ]
          refine wpAnyH_ready (rs := [17]) (by kernel_rfl) (by simp) ?_
          refine AllReadyH.cons rfl (fun K hK => ?_) ?_
          · go_simp
            refine HLea.out.mono ?_
            rintro e v1 ⟨rfl, hv1⟩
            have hv2 := hv1.symm
            subst hv2
            try go_wp2_with fail
            refine hK.out _ _ ?_ (fun hHeld => ?_)
            · rfl
            clear hK K
            try simp only [Act.put, List.getElem_toArray, List.getElem_cons_zero, List.getElem_cons_succ, List.setIfInBounds_toArray, List.set_cons_zero, List.set_cons_succ]
            refine wpAnyH_take (i := 20) (v := ?_) rfl (by kernel_rfl) (by kernel_rfl) (by kernel_rfl) (fun _ _ _ h => h.elim) (Or.inl ⟨by rfl, ?_⟩) (by assumption) ?_
            rotate_left
            · intro wx hSw
              try dsimp only at hSw
              go_simp
              try with_reducible rfl
            try simp only [Act.put, List.getElem_toArray, List.getElem_cons_zero, List.getElem_cons_succ, List.setIfInBounds_toArray, List.set_cons_zero, List.set_cons_succ]
            refine wpAnyH_take (i := 21) (v := ?_) rfl (by kernel_rfl) (by kernel_rfl) (by kernel_rfl) (fun _ _ _ h => h.elim) (Or.inl ⟨by rfl, ?_⟩) (by assumption) ?_
            rotate_left
            · intro wx hSw
              try dsimp only at hSw
              go_simp
              try with_reducible rfl
            try simp only [Act.put, List.getElem_toArray, List.getElem_cons_zero, List.getElem_cons_succ, List.setIfInBounds_toArray, List.set_cons_zero, List.set_cons_succ]
            refine wpAnyH_done (by kernel_rfl) ?_ _
            dsimp only [Only, Exit.then]
            have cz := HCk.out Ta.drew HBta.out.drew
            have hmb' : (z.tmod 3 != 0) = true := by simpa using hm
            go_wp2_with fail
            go_roundw
            case rel => exact ⟨k + 1, by go_num, by omega, by omega, ⟨u4, n + 1, La, HAta.out.upto ((Below.refl _ _).drew), by omega, HLna.out⟩, HBta.out.drew⟩
            case measure => simp [intOf]; omega
          exact AllReadyH.nil
      · have d1 : (k : Int) < (zs.length : Nat) := by omega
        have d2 : ¬ (k : Int) < 300 := by omega
        have d1' : decide ((k : Int) < (zs.length : Nat)) = true := by simpa using hkl
        go_wp2_with fail
        refine (awake_is _).mono ?_
        rintro e w9 ⟨rfl, hb9⟩
        have HB9 := hide (bt HB.out hb9)
        clear hb9
        go_wp2_with fail
        go_ret
        exact ⟨rfl, HB9.out⟩
    · have d1 : ¬ (k : Int) < (zs.length : Nat) := by omega
      have d1' : decide ((k : Int) < (zs.length : Nat)) = false := by simpa using hkl
      go_wp2_with fail
      refine (awake_is _).mono ?_
      rintro e w9 ⟨rfl, hb9⟩
      have HB9 := hide (bt HB.out hb9)
      clear hb9
      go_wp2_with fail
      go_ret
      exact ⟨rfl, HB9.out⟩
end Go.Proofs.Ytdhiomahcilffaa
