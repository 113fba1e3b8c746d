/-
  The document's Cells and Same, of what reads the same. Put as a whole.
-/
import Derived.Test.YtihjmgdihpeffaaPut
namespace Go.Proofs.Ytihjmgdihpeffaa
open Go.RowKit
set_option linter.unusedVariables false
set_option linter.unusedSimpArgs false
theorem put_is {w : World} {c m : Nat} {ov : Value} {room ep : Int} {F : K6 → Value} {L : List En} (h : PC w c m ov room ep F L) {q : K6} (hq : W6 q) (e : Int) {o : Int} {v : Value} {P : List (Int × Int)} (hv : CeR w v P) (hl : P.length * 16 ≤ 140737488355328) (hvn : ∀ g, P ≠ [] → v.ownBlock = some g → ¬ PB c m ov g) :
    Calls Try.prog 12 #[ptr c, kv q, .int .i64 e, wy o v] w fun en w' => en = .returned (.int .i64 0) ∧ PcF w c m ov room e (putL room (if e = ep then L else []) q (o, P)) q o w' := by
  by_cases he : e = ep
  · rw [if_pos he]
    subst he
    by_cases hin : q ∈ ks L
    · exact put_old h hq e hv hl hvn hin
    · exact put_new h hq e hv hl hvn hin
  · rw [if_neg he]
    exact put_epoch h hq e hv hl hvn he
theorem CeR.at {w : World} {v : Value} {P : List (Int × Int)} {a : Option Addr} {n cap : Nat} (h : CeR w v P) (hv : v = .slice a n cap) {i : Nat} {q : Int × Int} (hi : P[i]? = some q) :
    ∃ g o, a = some ⟨g, o, none⟩ ∧ g < w.heap.size ∧ w.cell? ⟨g, o + i * 2, none⟩ = some (.int .i64 q.1) ∧ w.cell? ⟨g, o + i * 2 + 1, none⟩ = some (.int .i64 q.2) := by
  obtain ⟨a', cap', e, -, -, -, hat⟩ := h
  rw [hv] at e
  injection e with e1
  subst e1
  obtain ⟨g, o, e1, e2, e3⟩ := hat i q hi
  exact ⟨g, o, e1, e2, e3 0 _ rfl, e3 1 _ rfl⟩
set_option maxRecDepth 100000 in
set_option maxHeartbeats 4000000 in
theorem refcells_yes (va vb : Value) (P : List (Int × Int)) (w : World) (ha : CeR w va P) (hb : CeR w vb P) : Calls Try.prog 16 #[va, vb] w fun e w' => e = .returned (.bool true) ∧ Below w.heap.size w w' := by
  obtain ⟨a, cap, rfl, hcap, hmax⟩ := ha.slice
  obtain ⟨b, capb, rfl, hcapb, -⟩ := hb.slice
  have hl63 : (0 : Int) ≤ (P.length : Nat) ∧ ((P.length : Nat) : Int) ≤ 9223372036854775807 := by
    have : P.length ≤ 9223372036854775807 := hmax
    omega
  go_enter Try.func16, Try.ntmps16
  go_wp2_with fail
  go_loopw [5] (fun s5 wr => ∃ k : Nat, k ≤ P.length ∧ s5 = .int .i64 k ∧ Below w.heap.size w wr) (fun s5 _ => P.length - (intOf s5).toNat)
  case atStart => exact ⟨0, Nat.zero_le _, rfl, Below.refl _ _⟩
  case round =>
    obtain ⟨k, hk, rfl, hB⟩ := hrel
    by_cases hlt : k < P.length
    · obtain ⟨q, hq⟩ : ∃ q, P[k]? = some q := ⟨_, List.getElem?_eq_getElem hlt⟩
      obtain ⟨g, o, hga, hgl, c0, c1⟩ := CeR.at (ha.kept hB) rfl hq
      obtain ⟨g2, o2, hgb, hgl2, d0, d1⟩ := CeR.at (hb.kept hB) rfl hq
      subst hga
      subst hgb
      have hki : (k : Int) < (P.length : Nat) := by omega
      obtain ⟨Y, hY⟩ : ∃ Y, wr.drew = Y := ⟨_, rfl⟩
      have BY : Below w.heap.size w Y := by rw [← hY]; exact hB.drew
      have c0 : Y.cell? ⟨g, o + k * 2, none⟩ = some (.int .i64 q.1) := by rw [← hY]; exact c0
      have c1 : Y.cell? ⟨g, o + k * 2 + 1, none⟩ = some (.int .i64 q.2) := by rw [← hY]; exact c1
      have d0 : Y.cell? ⟨g2, o2 + k * 2, none⟩ = some (.int .i64 q.1) := by rw [← hY]; exact d0
      have d1 : Y.cell? ⟨g2, o2 + k * 2 + 1, none⟩ = some (.int .i64 q.2) := by rw [← hY]; exact d1
      have HY := hide hY
      have HB := hide BY
      clear hY BY hB hgl hgl2
      go_wp2_with fail
      refine wp_only ?_
      refine wp_region_z (fun wx : World => wx = Y) [] (by kernel_rfl) ?_
      rw [HY.out]
      refine zx 0 9 16 rfl (by kernel_rfl) rfl ?_
      iterate 8 (refine zxc rfl (by rfl) (fun wx hx => by subst hx; go_simp; rfl) ?_; simp only [zp])
      refine zxc (v := .bool false) rfl (by rfl) (fun wx hx => by subst hx; go_simp) ?_
      simp only [zp]
      refine zxn ?_
      refine anyZ_done (by kernel_rfl) ?_ _
      dsimp only [Only, Exit.then]
      go_wp2_with fail
      go_roundw
      case rel => exact ⟨k + 1, by omega, by go_num, HB.out⟩
      case measure => simp [intOf]; omega
    · obtain rfl : k = P.length := by omega
      have hki : ¬ ((P.length : Nat) : Int) < (P.length : Nat) := by omega
      go_wp2_with fail
      go_ret
      exact ⟨rfl, hB⟩
set_option maxRecDepth 100000 in
set_option maxHeartbeats 1000000 in
theorem same_yes (o : Int) (va vb : Value) (P : List (Int × Int)) (w : World) (ha : CeR w va P) (hb : CeR w vb P) : Calls Try.prog 11 #[wy o va, wy o vb] w fun e w' => e = .returned (.bool true) ∧ Below w.heap.size w w' := by
  obtain ⟨X, hX⟩ : ∃ X, (w.alloc (.cells #[.int .i64 o, va] 39)).alloc (.cells #[.int .i64 o, vb] 39) = X := ⟨_, rfl⟩
  have B0 : Below w.heap.size w X := by rw [← hX]; exact box2 _ _ _
  have K0 : Bk X w.heap.size 39 [.int .i64 o, va] := by rw [← hX]; exact ((Bk.new w 39 [.int .i64 o, va]).upto (box1 _ _))
  have K1 : Bk X (w.heap.size + 1) 39 [.int .i64 o, vb] := by rw [← hX]; exact Bk.new2 _ _ _ _
  have HC := hide (refcells_yes va vb P X (ha.kept B0) (hb.kept B0))
  have a0 := K0.cell 0 _ rfl
  have a1 := K0.cell 1 _ rfl
  have b0 := K1.cell 0 _ rfl
  have b1 := K1.cell 1 _ rfl
  have HX := hide hX
  have HB := hide B0
  clear hX K0 K1 B0 ha hb
  go_enter Try.func11, Try.ntmps11
  go_wp2_with (rw [HX.out])
  refine HC.out.mono ?_
  rintro e w1 ⟨rfl, hb1⟩
  have HB1 := hide (bt HB.out hb1)
  clear hb1 a0 a1 b0 b1 HX
  go_wp2_with fail
  go_ret
  exact ⟨rfl, HB1.out⟩
end Go.Proofs.Ytihjmgdihpeffaa
