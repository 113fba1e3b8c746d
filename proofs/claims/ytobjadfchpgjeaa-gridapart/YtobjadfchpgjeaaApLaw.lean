/-
  Proved: phalanxlaw04.GridApart returns true for every map and every two lists of edits that hold together at most 1048576 values (the second form, UptoSaid), and leaves its arguments as they were. Conditions: that bound, and the row's own.
-/
import Derived.Test.YtobjadfchpgjeaaApAll
import Derived.Test.YtobjadfchpgjeaaEditsOpens
import Derived.ProofKit
import Derived.OpenShut
import Derived.JoinedCond
import Derived.ChangeOld
import Derived.Carry
set_option linter.unusedSimpArgs false
namespace Go.Proofs.Ytobjadfchpgjeaa
open Go.RowKit
set_option linter.unusedVariables false
set_option maxRecDepth 100000 in
set_option maxHeartbeats 4000000 in
theorem apart_bad (W H : Int) (tv bv lv : Value) (a4 : Option Addr) (n4 cap4 : Nat) (tl : List Nat) (L : List Bd) (K : List (Bool × Bd)) (w : World) (hv : TlR w tv tl) (hb : ∀ x ∈ tl, x < 256) (hl : BdR w bv L) (ht : tl.length ≤ 140737488355328) (hL : L.length * 40 ≤ 140737488355328) (hK : EdR w lv K) (hc : chkC W H tl L = 1) :
    Calls Try.prog 5 #[mp W H tv bv, lv, .slice a4 n4 cap4] w fun e w' => e = .returned (.bool true) ∧ Below w.heap.size w w' := by
  have B0 := box1 w (.cells #[.int .i64 W, .int .i64 H, tv, bv] 25)
  have M0 : MB (w.alloc (.cells #[.int .i64 W, .int .i64 H, tv, bv] 25)) w.heap.size W H tv bv := heap_alloc_new w _
  obtain ⟨X, hX⟩ : ∃ X, w.alloc (.cells #[.int .i64 W, .int .i64 H, tv, bv] 25) = X := ⟨_, rfl⟩
  rw [hX] at B0 M0
  have HM := hide (made_bad W H tv bv lv tl L K X (hv.kept B0) hb (hl.kept B0) ht hL (hK.kept B0) hc)
  have HA : Hid (∀ wx, Calls Try.prog 10 #[] wx fun e w' => e = .returned (.bool true) ∧ Below wx.heap.size wx w') := hide awake_any
  obtain ⟨a1, cap1, rfl, -⟩ := hv
  obtain ⟨a2, cap2, rfl, -⟩ := hl
  obtain ⟨a3, cap3, rfl, -⟩ := hK
  clear hc hb
  obtain ⟨m0, m1, m2, m3⟩ := M0.c
  go_enter Try.func5, Try.ntmps5
  go_wp2_with fail
  refine HM.out.mono ?_
  rintro e w1 ⟨rfl, hb1⟩
  have HB1 := hide (bt B0 hb1)
  clear hX m0 m1 m2 m3 M0 hb1 HM B0
  go_wp2_with fail
  refine (HA.out _).mono ?_
  rintro e w2 ⟨rfl, hb2⟩
  have hE : Below w.heap.size w w2 := bt (bt HB1.out (box1 _ _)) hb2
  clear HA hb2
  go_wp2_with fail
  go_ret
  exact ⟨rfl, hE⟩
end Go.Proofs.Ytobjadfchpgjeaa
namespace Go.Proofs.Ytobjadfchpgjeaa
open Go.ChangeShapes Go.WideShapes Go.ChangeAt Go.WideMaps Go.WideElems Go.RowKit Go.Deep Go.Joins
set_option linter.unusedVariables false
set_option maxRecDepth 100000
theorem bulk_pos {H : Type} (d : DataW H) : 1 ≤ Rows.uptoBulk d := by
  cases d with
  | lit l => cases l <;> simp [Rows.uptoBulk]
  | _ => simp [Rows.uptoBulk]
theorem bulk_len {H : Type} (l : List (DataW H)) : l.length ≤ Rows.uptoBulkAll l := by
  induction l with
  | nil => simp [Rows.uptoBulkAll]
  | cons x r ih =>
    have := bulk_pos x
    simp only [Rows.uptoBulkAll, List.length_cons]
    omega
theorem bulk_slice {H : Type} (elems spare : List (DataW H)) : Rows.uptoBulk (.slice elems spare) = Rows.uptoBulkAll elems + Rows.uptoBulkAll spare + 1 := by simp only [Rows.uptoBulk]
section
variable {H : Type} {enc : TypeId × Value → H} {W : World} {base : Nat} {sp : Nat → Bool} {held : Bool}
/-- A map that was read. -/
theorem opened_map_b {b0 : Nat} {r : Reach} {v : Value} {d : DataW H} {p : List MemPlace} (hv : Value.okWide Try.prog W r b0 25 v) (h : DataW.Trod enc Try.prog W base sp held 25 v d p) :
    ∃ (Wd Hd : Int) (tv bv : Value) (tl : List Nat) (L : List Bd), v = mp Wd Hd tv bv ∧ TlR W tv tl ∧ (∀ n ∈ tl, n < 256) ∧ BdR W bv L ∧ (Rows.uptoBulk d ≤ 1048576 → tl.length ≤ 140737488355328 ∧ L.length * 40 ≤ 140737488355328) := by
  obtain ⟨cs, rfl, hsz⟩ := okWide_struct Try.underlying25 hv
  obtain ⟨fuel, hf⟩ := h
  obtain ⟨y0, y1, y2, y3, n, hx, hl, e0, e1, e2, e3⟩ := trod_struct4 Try.underlying25 hf
  rw [cMp] at hl
  obtain ⟨l⟩ := cs
  simp only [Value.cells] at hl e0 e1 e2 e3
  match l, hl with
  | [q0, q1, q2, q3], _ =>
    simp only [c3, cSl, cSl2, List.drop_zero, List.drop_succ_cons, List.take_succ_cons, List.take_zero] at e0 e1 e2 e3
    obtain ⟨x0, r0, -, -⟩ := DataW.trod_int Try.underlying3 e0
    obtain ⟨x1, r1, -, -⟩ := DataW.trod_int Try.underlying3 e1
    simp at r0 r1
    subst r0
    subst r1
    obtain ⟨tl, ⟨ht, hb⟩, htl⟩ := opened_tiles e2
    obtain ⟨L, hL, hLl⟩ := opened_blds e3
    refine ⟨x0, x1, q2, q3, tl, L, rfl, ht, hb, hL, fun hw => ?_⟩
    have hd : d = .agg [y0.1, y1.1, y2.1, y3.1] := congrArg Prod.fst hx
    subst hd
    have hbk : Rows.uptoBulk y2.1 + Rows.uptoBulk y3.1 ≤ 1048576 := by
      simp only [Rows.uptoBulk, Rows.uptoBulkAll] at hw
      omega
    constructor
    · rcases htl with rfl | ⟨elems, spare, he, hn⟩
      · simp
      · rw [he, bulk_slice] at hbk
        have := bulk_len elems
        omega
    · rcases hLl with rfl | ⟨elems, spare, he, hn⟩
      · simp
      · rw [he, bulk_slice] at hbk
        have := bulk_len elems
        omega
theorem opened_edits_b {b0 : Nat} {r : Reach} {v : Value} {d : DataW H} {p : List MemPlace} (hv : Value.okWide Try.prog W r b0 26 v) (h : DataW.Trod enc Try.prog W base sp held 26 v d p) (hw : Rows.uptoBulk d ≤ 1048576) :
    ∃ K, EdR W v K ∧ K.length ≤ 1048576 := by
  obtain ⟨a0, l0, c0, rfl⟩ := okWide_slice Try.underlying26 hv
  obtain ⟨fuel, hf⟩ := h
  simp only [Value.cells] at hf
  rcases open_slice Try.underlying26 hf with ⟨hcs, hx⟩ | ⟨a, len, cap, m, n, D, Pl, hcs, hb, hl, hm, hmm, hx, hel⟩
  · simp only [List.cons.injEq, and_true] at hcs
    rw [hcs]
    exact ⟨[], ⟨none, 0, rfl, Nat.le_refl _, by decide, fun i t h => by simp at h⟩, by decide⟩
  · simp only [List.cons.injEq, and_true] at hcs
    rw [hcs]
    have hlm : len ≤ m := by rw [hmm]; split <;> omega
    rw [cEd] at hel
    have hit : Inhabited (Bool × Bd) := ⟨⟨false, ⟨0, 0, 0, 0, 0⟩⟩⟩
    obtain ⟨T, hT⟩ := choose_lt (α := Bool × Bd) (p := fun i t => EdAtR W (some a) i t) (n := len) (fun i hi => by
      obtain ⟨cs', h1, h2⟩ := hel i (by omega)
      obtain ⟨z, t, rfl⟩ := ed_of h2
      obtain ⟨cs0, g1, g2⟩ := hel 0 (by omega)
      obtain ⟨z0, t0, rfl⟩ := ed_of g2
      have hc0 := (World.cells?_some g1).2.2 0 (by omega)
      obtain ⟨b, o, s⟩ := a
      have hsp : s = none := by
        have := World.cell?_spot (hc0.trans rfl)
        simpa [Addr.add] using this
      subst hsp
      rw [Addr.add_lit] at h1
      have h5 := six_cells h1
      exact ⟨(z, t), b, o, rfl, World.block_lt_of_cell? _ _ h5.1, h5.1, h5.2.1, h5.2.2.1, h5.2.2.2.1, h5.2.2.2.2.1, h5.2.2.2.2.2⟩)
    obtain ⟨elems, spare, he, hn⟩ : ∃ elems spare, d = .slice elems spare ∧ elems.length = len := ⟨_, _, congrArg Prod.fst hx, by simp⟩
    subst he
    rw [bulk_slice] at hw
    have h1 := bulk_len elems
    refine ⟨(List.range len).map T, ⟨some a, cap, by simp, by simpa using hl, by simp; omega, fun i t ht => ?_⟩, by simp; omega⟩
    obtain ⟨h1, rfl⟩ := range_get i t ht
    exact hT i h1
end
end Go.Proofs.Ytobjadfchpgjeaa
namespace Go.Proofs.Ytobjadfchpgjeaa.gridApart
open Go.ChangeShapes Go.WideShapes Go.ChangeAt Go.WideMaps Go.WideElems Go.RowKit Go.Joins
set_option linter.unusedVariables false
set_option maxRecDepth 100000 in
theorem contract (H : Type) (enc : TypeId × Value → H) (W : World) (base : Nat) (args : Array Value) (ds gs : List (DataW H)) (before : List MemPlace)
    (hval : ∀ (j : Nat) t v, Try.f5.params[j]? = some t → args[j]? = some v → Value.okWide Try.prog W .any base t v)
    (hW : DataW.Whole enc Try.prog Try.f5.params.toList Rows.gridApartSpec.vars false W args.toList ds gs before) (hk : Rows.uptoSmall H (ds ++ gs) = true) :
    Calls Try.prog 5 args W fun e W' => ∃ v, e = .returned v ∧ Rows.gridApartSpec.post enc Try.prog Try.f5 false true false false W args v W' := by
  have hW' := hW
  obtain ⟨p, q, hA0, hV, rfl, hfz, hnd⟩ := hW
  have hA : DataW.TrodAll enc Try.prog W 0 (fun _ => true) true Try.f5.params.toList args.toList ds p := hA0
  rw [Try.params5] at hA hval
  obtain ⟨v0, vs0, d0, ds0, p0, q0, hargs, rfl, rfl, h0, r0⟩ := trodAll_cons hA
  obtain ⟨v1, vs1, d1, ds1, p1, q1, rfl, rfl, rfl, h1, r1⟩ := trodAll_cons r0
  obtain ⟨v2, vs2, d2, ds2, p2, q2, rfl, rfl, rfl, h2, r2⟩ := trodAll_cons r1
  obtain ⟨rfl, rfl, rfl⟩ := trodAll_nil r2
  obtain rfl : args = #[v0, v1, v2] := by cases args; simp_all
  obtain ⟨rfl, rfl⟩ := trodVars_none hV
  have hbulk : Rows.uptoBulkAll [d0, d1, d2] ≤ 1048576 := of_decide_eq_true hk
  simp only [Rows.uptoBulkAll] at hbulk
  have lt0 : ∀ x ∈ p0, x.block < W.heap.size := by obtain ⟨m, hm⟩ := h0; exact DataW.trod_lt m _ _ _ hm
  have lt1 : ∀ x ∈ p1, x.block < W.heap.size := by obtain ⟨m, hm⟩ := h1; exact DataW.trod_lt m _ _ _ hm
  have lt2 : ∀ x ∈ p2, x.block < W.heap.size := by obtain ⟨m, hm⟩ := h2; exact DataW.trod_lt m _ _ _ hm
  obtain ⟨wd, ht, tv, bv, tl, L, rfl, hT, hTb, hB, hMl⟩ := opened_map_b (hval 0 25 v0 rfl rfl) h0
  obtain ⟨hM1, hM2⟩ := hMl (by omega)
  obtain ⟨K, hK, -⟩ := opened_edits_b (hval 1 26 v1 rfl rfl) h1 (by omega)
  obtain ⟨M, hM, hMs⟩ := opened_edits_b (hval 2 26 v2 rfl rfl) h2 (by omega)
  clear hA0
  have hwalk : Calls Try.prog 5 #[mp wd ht tv bv, v1, v2] W fun e w' => e = .returned (.bool true) ∧ Below W.heap.size W w' := by
    rcases chkC_two wd ht tl L with hc | hc
    · exact apart_good wd ht tv bv v1 v2 tl L K M W hT hTb hB hM1 hM2 hK hM (by omega) hc
    · have hM' := hM
      obtain ⟨a4, cap4, rfl, -⟩ := hM'
      exact apart_bad wd ht tv bv v1 a4 M.length cap4 tl L K W hT hTb hB hM1 hM2 hK hc
  refine hwalk.mono fun e W' ⟨he, bel⟩ => ?_
  subst he
  exact ⟨_, rfl, _, _, _, [], _, [], hW', trodAll_mk1 (shut_bool Try.underlying4 _), (trodAll_cons_mk (Below.trod laidOut (by kernel_rfl) (of_decide_eq_true (by kernel_rfl)) h0 bel lt0) (trodAll_cons_mk (Below.trod laidOut (by kernel_rfl) (of_decide_eq_true (by kernel_rfl)) h1 bel lt1) (trodAll_cons_mk (Below.trod laidOut (by kernel_rfl) (of_decide_eq_true (by kernel_rfl)) h2 bel lt2) trodAll_mk0))), rfl, bel.frame _, fun h => by cases h⟩
set_option maxRecDepth 100000 in
theorem lifted (os : Os) (started : os.Started) (H : Type) (enc : TypeId × Value → H) (F : Stop.Interp) :
    ReturnsInHanded {} Try.checked os 5 .any ((Rows.OpenSpec.upto Rows.gridApartSpec).pre6 enc Try.prog Try.f5 Rows.gridApartUptoRow.domain false) (((Rows.OpenSpec.upto Rows.gridApartSpec).at F).post enc Try.prog Try.f5 false true false false) := by
  refine returnsInHanded_of_cond (C := Try.checked) (s := Rows.OpenSpec.upto Rows.gridApartSpec) (k := Rows.uptoSmall) rfl own started (by kernel_rfl) Try.func5
    (OpenSpec.witness (enc := enc) (C := Try.checked) (s := Rows.OpenSpec.upto Rows.gridApartSpec) (k := Rows.uptoSmall) rfl false ⟨#[], #[.agg #[.int .i64 0, .int .i64 0, .slice none 0 0, .slice none 0 0], .slice none 0 0, .slice none 0 0], []⟩ 8 (by kernel_rfl) (by kernel_rfl) (by kernel_rfl)
      (x := ([.agg [.lit (.int .i64 0), .lit (.int .i64 0), .nil, .nil], .nil, .nil], [], [])) (by kernel_rfl) rfl (by kernel_rfl)) ?_
  intro W base args ds gs before hval hW _ hk _
  exact contract H enc W base args ds gs before hval hW hk
theorem over : Rows.GridApartUptoSaid :=
  OpenClaim.holds_of_cond 5 Try.f5 rfl rfl rfl rfl rfl rfl rfl ⟨rfl, rfl, rfl, rfl, rfl⟩ rfl rfl rfl rfl rfl (by kernel_rfl) Try.func5 (by kernel_rfl)
    (of_decide_eq_true (by kernel_rfl)) (by unfold Func.isWrapper; first | (rw [if_pos (by decide +kernel)]; kernel_rfl) | (rw [if_neg (by decide +kernel)]; exact ⟨rfl, rfl⟩))
    (fun os started H enc _ F => lifted os started H enc F)
end Go.Proofs.Ytobjadfchpgjeaa.gridApart
namespace Go.Proofs.Ytobjadfchpgjeaa
theorem gridApart_holds : Rows.GridApartUptoSaid := gridApart.over
#print axioms gridApart_holds
end Go.Proofs.Ytobjadfchpgjeaa
