/-
  Proved: phalanxlaw07.ClearUpdates returns true for every map, every class and every list of edits, and leaves its arguments as they were. Conditions: none but the row's own: the packages' variables offsets and grounds hold what their initialisers lay (the card ties them).
-/
import Derived.Test.YtnoodnmbghfchaaDoorUW
import Derived.Test.YtnoodnmbghfchaaDoorMapOpens
import Derived.Test.YtnoodnmbghfchaaDoorCards
import Derived.Test.YtnoodnmbghfchaaDoorTie
namespace Go.Proofs.YtnoodnmbghfchaaDoor
open Go.ChangeShapes Go.WideShapes Go.ChangeAt Go.WideMaps Go.WideElems Go.RowKit Go.Deep Go.Joins
set_option linter.unusedVariables false
set_option maxRecDepth 100000
theorem cEd : Tryd.prog.cellsOf 52 = 6 := by kernel_rfl
theorem cBo : Tryd.prog.cellsOf 4 = 1 := by kernel_rfl
section
variable {H : Type} {enc : TypeId × Value → H} {W : World} {base : Nat} {sp : Nat → Bool} {held : Bool}
theorem ed_of {fuel : Nat} {cs : List Value} {z : DataW H × List MemPlace} (h : DataW.trod enc Tryd.prog W base sp held fuel 52 cs = some z) : ∃ (b : Bool) (t : Bd), cs = [.bool b, .int .i64 t.id, .int .i64 t.x, .int .i64 t.y, .int .i64 t.a, .int .i64 t.b] := by
  obtain ⟨y0, y1, n, rfl, hl, h0, h1⟩ := trod_struct2 Tryd.underlying52 h
  obtain ⟨i, e0, -⟩ := DataW.trod_bool Tryd.underlying4 h0
  obtain ⟨t, e1⟩ := bd_of h1
  rw [cEd] at hl
  match cs, hl, e0, e1 with
  | [q, u, v, s, t', r], _, e0, e1 =>
    simp [cBo, cBd] at e0 e1
    subst e0
    obtain ⟨rfl, rfl, rfl, rfl, rfl⟩ := e1
    exact ⟨i, t, rfl⟩
theorem six_cells {b o : Nat} {c0 c1 c2 c3 c4 c5 : Value} (h : W.cells? base ⟨b, o, none⟩ 6 = some [c0, c1, c2, c3, c4, c5]) :
    W.cell? ⟨b, o, none⟩ = some c0 ∧ W.cell? ⟨b, o + 1, none⟩ = some c1 ∧ W.cell? ⟨b, o + 2, none⟩ = some c2 ∧ W.cell? ⟨b, o + 3, none⟩ = some c3 ∧ W.cell? ⟨b, o + 4, none⟩ = some c4 ∧ W.cell? ⟨b, o + 5, none⟩ = some c5 := by
  obtain ⟨_, _, hc⟩ := World.cells?_some h
  have h0 := hc 0 (by omega)
  have h1 := hc 1 (by omega)
  have h2 := hc 2 (by omega)
  have h3 := hc 3 (by omega)
  have h4 := hc 4 (by omega)
  have h5 := hc 5 (by omega)
  simp only [Addr.add_lit] at h0 h1 h2 h3 h4 h5
  exact ⟨h0, h1, h2, h3, h4, h5⟩
theorem opened_edits {b0 : Nat} {r : Reach} {v : Value} {d : DataW H} {p : List MemPlace} (hv : Value.okWide Tryd.prog W r b0 42 v) (h : DataW.Trod enc Tryd.prog W base sp held 42 v d p) : ∃ K, EdR W v K := by
  obtain ⟨a0, l0, c0, rfl⟩ := okWide_slice Tryd.underlying42 hv
  obtain ⟨fuel, hf⟩ := h
  simp only [Value.cells] at hf
  rcases open_slice Tryd.underlying42 hf with ⟨hcs, hx⟩ | ⟨a, len, cap, m, n, D, Pl, hcs, hb, hl, hm, hmm, hx, hel⟩
  · simp only [List.cons.injEq, and_true] at hcs
    rw [hcs]
    exact ⟨[], none, 0, rfl, Nat.le_refl _, fun i t h => by simp at h⟩
  · simp only [List.cons.injEq, and_true] at hcs
    rw [hcs]
    have hlm : len ≤ m := by rw [hmm]; split <;> omega
    rw [cEd] at hel
    have hit : Inhabited (Bool × Bd) := ⟨⟨false, ⟨0, 0, 0, 0, 0⟩⟩⟩
    obtain ⟨T, hT⟩ := choose_lt (α := Bool × Bd) (p := fun i t => EdAtR W (some a) i t) (n := len) (fun i hi => by
      obtain ⟨cs', h1, h2⟩ := hel i (by omega)
      obtain ⟨z, t, rfl⟩ := ed_of h2
      obtain ⟨cs0, g1, g2⟩ := hel 0 (by omega)
      obtain ⟨z0, t0, rfl⟩ := ed_of g2
      have hc0 := (World.cells?_some g1).2.2 0 (by omega)
      obtain ⟨b, o, s⟩ := a
      have hsp : s = none := by
        have := World.cell?_spot (hc0.trans rfl)
        simpa [Addr.add] using this
      subst hsp
      rw [Addr.add_lit] at h1
      have h5 := six_cells h1
      exact ⟨(z, t), b, o, rfl, World.block_lt_of_cell? _ _ h5.1, h5.1, h5.2.1, h5.2.2.1, h5.2.2.2.1, h5.2.2.2.2.1, h5.2.2.2.2.2⟩)
    have hget : ∀ i t, ((List.range len).map T)[i]? = some t → i < len ∧ t = T i := by
      intro i t ht
      simp only [List.getElem?_map, Option.map_eq_some_iff] at ht
      obtain ⟨j, hj, rfl⟩ := ht
      obtain ⟨h1, h2⟩ := List.getElem?_eq_some_iff.1 hj
      simp only [List.length_range] at h1
      simp only [List.getElem_range] at h2
      subst h2
      exact ⟨h1, rfl⟩
    refine ⟨(List.range len).map T, some a, cap, by simp, by simpa using hl, fun i t ht => ?_⟩
    obtain ⟨h1, rfl⟩ := hget i t ht
    exact hT i h1
end
end Go.Proofs.YtnoodnmbghfchaaDoor
namespace Go.Proofs.YtnoodnmbghfchaaDoor.clearUpdates
open Go.ChangeShapes Go.WideShapes Go.ChangeAt Go.WideMaps Go.WideElems Go.RowKit
set_option linter.unusedVariables false
set_option maxRecDepth 100000 in
theorem lifted (os : Os) (started : os.Started) (H : Type) (enc : TypeId × Value → H) :
    ReturnsInHanded {} Tryd.checked os 4 .any (fun w args => (Rows.clearUpdatesSpec.pre enc Tryd.prog Tryd.f4 [] false w args ∧ laidMetH Tryd.prog laid1 w) ∧ sizedMet enc Tryd.prog Tryd.f4 (OpenSpec.ofChange Rows.clearUpdatesSpec) false w args)
      (Rows.clearUpdatesSpec.post enc Tryd.prog Tryd.f4 false true false false) := by
  refine returnsInHanded_of_change_and (C := Tryd.checked) (X := fun w _ => laidMetH Tryd.prog laid1 w) (fun _ _ _ hh h => h.of_heap hh) own started (by kernel_rfl) Tryd.func4
    (ChangeSpec.witness_shaped (enc := enc) (C := Tryd.checked) (os := os) (X := fun w _ => laidMetH Tryd.prog laid1 w) false (World.doorLaid Tryd.prog 400 os) #[.agg #[.int .i64 0, .int .i64 0, .slice none 0 0, .slice none 0 0], .int .i64 0, .slice none 0 0] 8 rfl (World.shaped_of_RefB (by kernel_rfl) (by kernel_rfl)) (by kernel_rfl) (by kernel_rfl) (by kernel_rfl) (door_met os _)) ?_
  intro W base args ds gs before hval0 hW _ _ hL _
  have hval : ∀ (j : Nat) t v, Tryd.f4.params[j]? = some t → args[j]? = some v → Value.okWide Tryd.prog W .any base t v := hval0
  have hW' := hW
  obtain ⟨p, q, hA0, hV, rfl, hfz, hnd⟩ := hW
  have hA : DataW.TrodAll enc Tryd.prog W 0 (fun _ => true) true Tryd.f4.params.toList args.toList ds p := hA0
  rw [Tryd.params4] at hA hval
  obtain ⟨v0, vs0, d0, ds0, p0, q0, hargs, rfl, rfl, h0, r0⟩ := trodAll_cons hA
  obtain ⟨v1, vs1, d1, ds1, p1, q1, rfl, rfl, rfl, h1, r1⟩ := trodAll_cons r0
  obtain ⟨v2, vs2, d2, ds2, p2, q2, rfl, rfl, rfl, h2, r2⟩ := trodAll_cons r1
  obtain ⟨rfl, rfl, rfl⟩ := trodAll_nil r2
  obtain rfl : args = #[v0, v1, v2] := by cases args; simp_all
  obtain ⟨rfl, rfl⟩ := trodVars_none hV
  have lt0 : ∀ x ∈ p0, x.block < W.heap.size := by obtain ⟨m, hm⟩ := h0; exact DataW.trod_lt m _ _ _ hm
  have lt1 : ∀ x ∈ p1, x.block < W.heap.size := by obtain ⟨m, hm⟩ := h1; exact DataW.trod_lt m _ _ _ hm
  have lt2 : ∀ x ∈ p2, x.block < W.heap.size := by obtain ⟨m, hm⟩ := h2; exact DataW.trod_lt m _ _ _ hm
  obtain ⟨wd, ht, tv, bv, tl, L, rfl, hT, hTb, hB⟩ := opened_map (hval 0 25 v0 rfl rfl) h0
  obtain ⟨c, rfl, -, -, -⟩ := open_int Tryd.underlying3 (hval 1 3 v1 rfl rfl) h1
  obtain ⟨K, hK⟩ := opened_edits (hval 2 42 v2 rfl rfl) h2
  clear hA0 hval0
  simp only [List.append_nil] at hW'
  have hwalk : Calls Tryd.prog 4 #[mp wd ht tv bv, .int .i64 c, v2] W fun e w' => e = .returned (.bool true) ∧ Below W.heap.size W w' := by
    have hK' := hK
    obtain ⟨a3, cap3, rfl, -, -⟩ := hK'
    rcases chkC_two wd ht tl L with hc | hc
    · cases hk : isC c
      · exact upd_cls wd ht tv bv tl L c a3 K.length cap3 W hT hTb hB (grnd_of_laid hL) (offs_of_laid hL) hc hk
      · obtain ⟨a, b, rfl, rfl, hd⟩ := dims_is hc
        by_cases hbig : 1500 < a * b ∨ 60 < K.length
        · exact upd_big a b hd tv bv tl L c a3 K.length cap3 W hT hTb hB (grnd_of_laid hL) (offs_of_laid hL) hc hk hbig
        · exact upd_good a b hd tv bv _ tl L K c W hT hTb hB hK (grnd_of_laid hL) (offs_of_laid hL) hc hk (by omega)
    · exact upd_bad wd ht tv bv tl L c a3 K.length cap3 W hT hTb hB (grnd_of_laid hL) (offs_of_laid hL) hc
  refine hwalk.mono fun e W' ⟨he, hg⟩ => ?_
  subst he
  exact ⟨_, rfl, _, _, _, [], _, [], hW', trodAll_mk1 (shut_bool Tryd.underlying4 _), (trodAll_cons_mk (Below.trod laidOut (by kernel_rfl) (of_decide_eq_true (by kernel_rfl)) h0 hg lt0) (trodAll_cons_mk (Below.trod laidOut (by kernel_rfl) (of_decide_eq_true (by kernel_rfl)) h1 hg lt1) (trodAll_cons_mk (Below.trod laidOut (by kernel_rfl) (of_decide_eq_true (by kernel_rfl)) h2 hg lt2) trodAll_mk0))), rfl, hg.frame _, fun h => by cases h⟩
theorem over : Rows.ClearUpdatesSaid :=
  OpenClaim.holds_of_wide 4 Tryd.f4 rfl rfl rfl rfl rfl rfl rfl ⟨rfl, rfl, rfl, rfl, rfl⟩ rfl rfl rfl rfl rfl (by kernel_rfl) Tryd.func4 (by kernel_rfl)
    (of_decide_eq_true (by kernel_rfl)) (by unfold Func.isWrapper; first | (rw [if_pos (by decide +kernel)]; kernel_rfl) | (rw [if_neg (by decide +kernel)]; exact ⟨rfl, rfl⟩))
    (fun os started H enc _ => lifted os started H enc)
end Go.Proofs.YtnoodnmbghfchaaDoor.clearUpdates
namespace Go.Proofs.YtnoodnmbghfchaaDoor
open Go
theorem clearUpdates_holds : Rows.ClearUpdatesCardSaid :=
  Claim7.holds_tied_plain_at .later [] [.data, .data] true (true, "29b041e5124b5f363abd372be4da23848109177d376fba4c73e7039a0f922907") false
    clearUpdates.over (fun _ h => by cases h) (by kernel_rfl) (fun _ h => by cases h) clearUpdates_row_tie rfl ⟨rfl, rfl⟩ (by kernel_rfl) rfl
    (fun f fn hf hfn => by
      obtain rfl : f = 4 := Option.some.inj ((show Tryd.prog.funcNamed Rows.clearUpdatesRow.func = some 4 by kernel_rfl).symm.trans hf) |>.symm
      obtain rfl : fn = Tryd.f4 := (Option.some.inj (Tryd.func4.symm.trans hfn)).symm
      exact ⟨by kernel_rfl, fun j t ht => by
        rw [Tryd.params4] at ht
        have hm : t ∈ [25, 3, 42] := by simpa using Array.mem_of_getElem? ht
        have hall : ([25, 3, 42].all fun u => !Tryd.prog.wantsStandIn u) = true := by kernel_rfl
        exact (show Tryd.prog.wantsStandIn t = false by simpa using List.all_eq_true.1 hall t hm)⟩)
    (by kernel_rfl)
#print axioms clearUpdates_holds
end Go.Proofs.YtnoodnmbghfchaaDoor
