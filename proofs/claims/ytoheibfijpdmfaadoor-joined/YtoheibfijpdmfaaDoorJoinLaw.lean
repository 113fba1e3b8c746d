/-
  Proved: phalanxlaw08.PartsJoined returns true for every map, every shape and every two cells, and leaves its arguments as they were. Conditions: none but the row's own: the packages' variables offsets and grounds hold what their initialisers lay (the card ties them).
-/
import Derived.Test.YtoheibfijpdmfaaDoorPJoin
import Derived.Test.YtoheibfijpdmfaaDoorMapOpens
import Derived.Test.YtoheibfijpdmfaaDoorCards
import Derived.Test.YtoheibfijpdmfaaDoorTie
namespace Go.Proofs.YtoheibfijpdmfaaDoor.partsJoined
open Go.ChangeShapes Go.WideShapes Go.ChangeAt Go.WideMaps Go.WideElems Go.RowKit
set_option linter.unusedVariables false
set_option maxRecDepth 100000
theorem c42 : Tryd.prog.cellsOf 42 = 4 := by kernel_rfl
theorem okWide_arr {P : Program} {w : World} {r : Reach} {b0 : Nat} {t e : TypeId} {n : Nat} {v : Value} (ht : P.underlying t = some (.array n e)) (h : Value.okWide P w r b0 t v) : ∃ cs, v = .agg cs ∧ cs.size = P.cellsOf t := by
  simp only [Value.okWide, ht] at h
  obtain ⟨cs, h1, h2, _⟩ := h
  exact ⟨cs, h1, h2⟩
theorem list4 {cs : List Value} (h : cs.length = 4) {a b c d : Value} (h1 : cs.take 2 = [a, b]) (h2 : (cs.drop 2).take 2 = [c, d]) : cs = [a, b, c, d] := by
  have h3 : cs.drop 2 = [c, d] := by rw [← h2, List.take_of_length_le (by simp; omega)]
  rw [← List.take_append_drop 2 cs, h1, h3]; rfl
theorem open_two {H : Type} {enc : TypeId × Value → H} {W : World} {base b0 : Nat} {sp : Nat → Bool} {held : Bool} {r : Reach} {v : Value} {d : DataW H} {p : List MemPlace} (hv : Value.okWide Tryd.prog W r b0 42 v) (h : DataW.Trod enc Tryd.prog W base sp held 42 v d p) :
    ∃ x y s t : Int, v = two x y s t := by
  obtain ⟨cs, rfl, hsz⟩ := okWide_arr Tryd.underlying42 hv
  obtain ⟨fuel, hf⟩ := h
  obtain ⟨xs, m, rfl, hx, hlen, hn, hel⟩ := DataW.trod_array Tryd.underlying42 hf
  match xs, hn with
  | [z0, z1], _ =>
    have h0 := hel 0 (by decide)
    have h1 := hel 1 (by decide)
    rw [c23] at h0 h1
    simp only [List.getElem?_cons_zero, List.getElem?_cons_succ] at h0 h1
    obtain ⟨x, y, e0, rfl, w0, w1⟩ := cell_of h0
    obtain ⟨s, t, e1, rfl, w2, w3⟩ := cell_of h1
    refine ⟨x, y, s, t, ?_⟩
    rw [c42] at hlen
    have hl := list4 hlen (by simpa using e0) (by simpa using e1)
    obtain ⟨l⟩ := cs
    simp [Value.cells] at hl
    subst hl
    rfl
set_option maxRecDepth 100000 in
theorem lifted (os : Os) (started : os.Started) (H : Type) (enc : TypeId × Value → H) :
    ReturnsInHanded {} Tryd.checked os 4 .any (fun w args => (Rows.partsJoinedSpec.pre enc Tryd.prog Tryd.f4 [] false w args ∧ laidMetH Tryd.prog laid1 w) ∧ sizedMet enc Tryd.prog Tryd.f4 (OpenSpec.ofChange Rows.partsJoinedSpec) false w args)
      (Rows.partsJoinedSpec.post enc Tryd.prog Tryd.f4 false true false false) := by
  have DecCn : ∀ (St : Nat → Bool) (Ad : Nat → Nat → Prop) (k i : Nat), Decidable (Cn St Ad k i) := fun _ _ _ _ => Classical.propDecidable _
  refine returnsInHanded_of_change_and (C := Tryd.checked) (X := fun w _ => laidMetH Tryd.prog laid1 w) (fun _ _ _ hh h => h.of_heap hh) own started (by kernel_rfl) Tryd.func4
    (ChangeSpec.witness_shaped (enc := enc) (C := Tryd.checked) (os := os) (X := fun w _ => laidMetH Tryd.prog laid1 w) false (World.doorLaid Tryd.prog 400 os) #[.agg #[.int .i64 0, .int .i64 0, .slice none 0 0, .slice none 0 0], .agg #[.int .i64 0, .int .i64 0], .agg #[.int .i64 0, .int .i64 0, .int .i64 0, .int .i64 0]] 8 rfl (World.shaped_of_RefB (by kernel_rfl) (by kernel_rfl)) (by kernel_rfl) (by kernel_rfl) (by kernel_rfl) (door_met os _)) ?_
  intro W base args ds gs before hval0 hW _ _ hL _
  have hval : ∀ (j : Nat) t v, Tryd.f4.params[j]? = some t → args[j]? = some v → Value.okWide Tryd.prog W .any base t v := hval0
  have hW' := hW
  obtain ⟨p, q, hA0, hV, rfl, hfz, hnd⟩ := hW
  have hA : DataW.TrodAll enc Tryd.prog W 0 (fun _ => true) true Tryd.f4.params.toList args.toList ds p := hA0
  rw [Tryd.params4] at hA hval
  obtain ⟨v0, vs0, d0, ds0, p0, q0, hargs, rfl, rfl, h0, r0⟩ := trodAll_cons hA
  obtain ⟨v1, vs1, d1, ds1, p1, q1, rfl, rfl, rfl, h1, r1⟩ := trodAll_cons r0
  obtain ⟨v2, vs2, d2, ds2, p2, q2, rfl, rfl, rfl, h2, r2⟩ := trodAll_cons r1
  obtain ⟨rfl, rfl, rfl⟩ := trodAll_nil r2
  obtain rfl : args = #[v0, v1, v2] := by cases args; simp_all
  obtain ⟨rfl, rfl⟩ := trodVars_none hV
  have lt0 : ∀ x ∈ p0, x.block < W.heap.size := by obtain ⟨m, hm⟩ := h0; exact DataW.trod_lt m _ _ _ hm
  have lt1 : ∀ x ∈ p1, x.block < W.heap.size := by obtain ⟨m, hm⟩ := h1; exact DataW.trod_lt m _ _ _ hm
  have lt2 : ∀ x ∈ p2, x.block < W.heap.size := by obtain ⟨m, hm⟩ := h2; exact DataW.trod_lt m _ _ _ hm
  obtain ⟨wd, ht, tv, bv, tl, L, rfl, hT, hTb, hB⟩ := opened_map (hval 0 25 v0 rfl rfl) h0
  obtain ⟨c, s, rfl, -, -, -, -⟩ := open_shape (hval 1 27 v1 rfl rfl) h1
  obtain ⟨x, y, a4, b4, rfl⟩ := open_two (hval 2 42 v2 rfl rfl) h2
  clear hA0 hval0
  simp only [List.append_nil] at hW'
  have hwalk : Calls Tryd.prog 4 #[mp wd ht tv bv, shv c s, two x y a4 b4] W fun e w' => e = .returned (.bool true) ∧ Below W.heap.size W w' := by
    rcases chkC_two wd ht tl L with hc | hc
    · cases hk : shB c s
      · exact join_shape wd ht tv bv tl L c s x y a4 b4 W hT hTb hB (grnd_of_laid hL) (offs_of_laid hL) hc hk
      · obtain ⟨a, b, rfl, rfl, hd⟩ := dims_is hc
        obtain ⟨sn, rfl⟩ : ∃ sn : Nat, s = (sn : Int) := ⟨s.toNat, by simp only [shB, Bool.and_eq_true, decide_eq_true_eq] at hk; omega⟩
        by_cases h7 : 700 < a * b
        · exact join_many a b hd tv bv tl L c sn x y a4 b4 W hT hTb hB (grnd_of_laid hL) (offs_of_laid hL) hc hk h7
        · exact join_good a b hd tv bv tl L c sn x y a4 b4 W hT hTb hB (grnd_of_laid hL) (offs_of_laid hL) hc hk (by omega)
    · exact join_bad wd ht tv bv tl L c s x y a4 b4 W hT hTb hB (grnd_of_laid hL) (offs_of_laid hL) hc
  refine hwalk.mono fun e W' ⟨he, hg⟩ => ?_
  subst he
  exact ⟨_, rfl, _, _, _, [], _, [], hW', trodAll_mk1 (shut_bool Tryd.underlying4 _), (trodAll_cons_mk (Below.trod laidOut (by kernel_rfl) (of_decide_eq_true (by kernel_rfl)) h0 hg lt0) (trodAll_cons_mk (Below.trod laidOut (by kernel_rfl) (of_decide_eq_true (by kernel_rfl)) h1 hg lt1) (trodAll_cons_mk (Below.trod laidOut (by kernel_rfl) (of_decide_eq_true (by kernel_rfl)) h2 hg lt2) trodAll_mk0))), rfl, hg.frame _, fun h => by cases h⟩
theorem over : Rows.PartsJoinedSaid :=
  OpenClaim.holds_of_wide 4 Tryd.f4 rfl rfl rfl rfl rfl rfl rfl ⟨rfl, rfl, rfl, rfl, rfl⟩ rfl rfl rfl rfl rfl (by kernel_rfl) Tryd.func4 (by kernel_rfl)
    (of_decide_eq_true (by kernel_rfl)) (by unfold Func.isWrapper; first | (rw [if_pos (by decide +kernel)]; kernel_rfl) | (rw [if_neg (by decide +kernel)]; exact ⟨rfl, rfl⟩))
    (fun os started H enc _ => lifted os started H enc)
end Go.Proofs.YtoheibfijpdmfaaDoor.partsJoined
namespace Go.Proofs.YtoheibfijpdmfaaDoor
open Go
theorem partsJoined_holds : Rows.PartsJoinedCardSaid :=
  Claim7.holds_tied_plain_at .later [] [.data, .data] true (true, "67f620c296cef4d730c3c3c5284f458c6f42e1e9540885ffd429acee01b5fea8") false
    partsJoined.over (fun _ h => by cases h) (by kernel_rfl) (fun _ h => by cases h) partsJoined_row_tie rfl ⟨rfl, rfl⟩ (by kernel_rfl) rfl
    (fun f fn hf hfn => by
      obtain rfl : f = 4 := Option.some.inj ((show Tryd.prog.funcNamed Rows.partsJoinedRow.func = some 4 by kernel_rfl).symm.trans hf) |>.symm
      obtain rfl : fn = Tryd.f4 := (Option.some.inj (Tryd.func4.symm.trans hfn)).symm
      exact ⟨by kernel_rfl, fun j t ht => by
        rw [Tryd.params4] at ht
        have hm : t ∈ [25, 27, 42] := by simpa using Array.mem_of_getElem? ht
        have hall : ([25, 27, 42].all fun u => !Tryd.prog.wantsStandIn u) = true := by kernel_rfl
        exact (show Tryd.prog.wantsStandIn t = false by simpa using List.all_eq_true.1 hall t hm)⟩)
    (by kernel_rfl)
#print axioms partsJoined_holds
end Go.Proofs.YtoheibfijpdmfaaDoor
