/-
  The document's order of pairs.
-/
import Derived.Test.YtmkoleioipklpaaOrf
namespace Go.Proofs.Ytmkoleioipklpaa
open Go.RowKit
set_option linter.unusedVariables false
set_option linter.unusedSimpArgs false
theorem Rf25 : Rcl 25 := zl fun _ _ => by go_simp
/-- What the document's order tells. -/
def BfE (w : World) (d : Nat → Nat → Int) (x y : Nat × Nat) (e : Ending) (w' : World) : Prop :=
  ∃ b, e = .returned (.bool b) ∧ (b = true ↔ ltD d x y) ∧ Below w.heap.size w w'
set_option maxRecDepth 100000 in
set_option maxHeartbeats 8000000 in
theorem before_is (us ps : Value) (U P : List (Int × Int)) (w : World) (hu : CeR w us U) (hp : CeR w ps P) (l64 : U.length ≤ 64) (l65 : P.length ≤ 64) {u p v q : Nat} (h1 : u < U.length) (h2 : p < P.length) (h3 : v < U.length) (h4 : q < P.length) :
    Calls Try.prog 21 #[us, ps, .int .i64 (u : Nat), .int .i64 (p : Nat), .int .i64 (v : Nat), .int .i64 (q : Nat)] w (BfE w (dst U P) (u, p) (v, q)) := by
  obtain ⟨au, cu, rfl, hcu, hmu⟩ := hu.slice
  obtain ⟨ap, cp, rfl, hcp, hmp⟩ := hp.slice
  obtain ⟨q1, hq1⟩ : ∃ q, U[u]? = some q := ⟨_, List.getElem?_eq_getElem h1⟩
  obtain ⟨q2, hq2⟩ : ∃ q, P[p]? = some q := ⟨_, List.getElem?_eq_getElem h2⟩
  obtain ⟨q3, hq3⟩ : ∃ q, U[v]? = some q := ⟨_, List.getElem?_eq_getElem h3⟩
  obtain ⟨q4, hq4⟩ : ∃ x, P[q]? = some x := ⟨_, List.getElem?_eq_getElem h4⟩
  have hd1 := dst_at hq1 hq2
  have hd2 := dst_at hq3 hq4
  obtain ⟨dx, hdx⟩ : ∃ z, dst U P u p = z := ⟨_, rfl⟩
  obtain ⟨dy, hdy⟩ : ∃ z, dst U P v q = z := ⟨_, rfl⟩
  have HL : Hid (ltD (dst U P) (u, p) (v, q) ↔ (dx < dy ∨ (dx = dy ∧ (u < v ∨ (u = v ∧ p < q))))) := hide (by unfold ltD; rw [hdx, hdy])
  obtain ⟨Y, hY⟩ : ∃ Y, w.drew = Y := ⟨_, rfl⟩
  have BY : Below w.heap.size w Y := by rw [← hY]; exact (Below.refl _ _).drew
  obtain ⟨g1, o1, hg1, hl1, a0, a1⟩ := CeR.at (hu.kept BY) rfl hq1
  obtain ⟨g3, o3, hg3, hl3, c0, c1⟩ := CeR.at (hu.kept BY) rfl hq3
  obtain ⟨g2, o2, hg2, hl2, b0, b1⟩ := CeR.at (hp.kept BY) rfl hq2
  obtain ⟨g4, o4, hg4, hl4, d0, d1⟩ := CeR.at (hp.kept BY) rfl hq4
  subst hg1
  subst hg2
  injection hg3 with hg3
  injection hg3 with e1 e2
  subst e1
  subst e2
  injection hg4 with hg4
  injection hg4 with e1 e2
  subst e1
  subst e2
  have HT : Hid (∀ wx, Below Y.heap.size Y wx → ((wx.cell? ⟨g1, o1 + u * 2, none⟩ = some (.int .i64 q1.1) ∧ wx.cell? ⟨g1, o1 + u * 2 + 1, none⟩ = some (.int .i64 q1.2)) ∧ (wx.cell? ⟨g2, o2 + p * 2, none⟩ = some (.int .i64 q2.1) ∧ wx.cell? ⟨g2, o2 + p * 2 + 1, none⟩ = some (.int .i64 q2.2))) ∧ ((wx.cell? ⟨g1, o1 + v * 2, none⟩ = some (.int .i64 q3.1) ∧ wx.cell? ⟨g1, o1 + v * 2 + 1, none⟩ = some (.int .i64 q3.2)) ∧ (wx.cell? ⟨g2, o2 + q * 2, none⟩ = some (.int .i64 q4.1) ∧ wx.cell? ⟨g2, o2 + q * 2 + 1, none⟩ = some (.int .i64 q4.2)))) := hide fun wx hb =>
    ⟨⟨⟨(hb.cell (p := ⟨g1, o1 + u * 2, none⟩) hl1).trans a0, (hb.cell (p := ⟨g1, o1 + u * 2 + 1, none⟩) hl1).trans a1⟩, (hb.cell (p := ⟨g2, o2 + p * 2, none⟩) hl2).trans b0, (hb.cell (p := ⟨g2, o2 + p * 2 + 1, none⟩) hl2).trans b1⟩, ⟨(hb.cell (p := ⟨g1, o1 + v * 2, none⟩) hl1).trans c0, (hb.cell (p := ⟨g1, o1 + v * 2 + 1, none⟩) hl1).trans c1⟩, (hb.cell (p := ⟨g2, o2 + q * 2, none⟩) hl2).trans d0, (hb.cell (p := ⟨g2, o2 + q * 2 + 1, none⟩) hl2).trans d1⟩
  have HO1 := hide (refoctilec_any q1.1 q1.2 q2.1 q2.2 Y)
  have HO2 := hide (fun W => refoctilec_any q3.1 q3.2 q4.1 q4.2 W)
  rw [← hd1, hdx] at HO1
  rw [← hd2, hdy] at HO2
  have HB := hide BY
  have HY := hide hY
  have i1 : (u : Int) < (U.length : Nat) := by omega
  have i2 : (p : Int) < (P.length : Nat) := by omega
  have i3 : (v : Int) < (U.length : Nat) := by omega
  have i4 : (q : Int) < (P.length : Nat) := by omega
  clear hu hp a0 a1 b0 b1 c0 c1 d0 d1 hl1 hl2 hl3 hl4 hd1 hd2 hdx hdy hq1 hq2 hq3 hq4 BY hY
  go_enter Try.func21, Try.ntmps21
  go_wp2_with fail
  refine wp_only ?_
  refine wp_region_z (fun wx : World => Below Y.heap.size Y wx) [] (by kernel_rfl) ?_
  rw [HY.out]
  refine zx 0 8 20 rfl (by kernel_rfl) (Below.refl _ _) ?_
  iterate 8 (refine zxc rfl (by rfl) (fun wx hx => by obtain ⟨⟨⟨a0, a1⟩, b0, b1⟩, ⟨c0, c1⟩, d0, d1⟩ := HT.out wx hx; go_simp; rfl) ?_; simp only [zp])
  refine zxn ?_
  refine zx 9 8 20 rfl (by kernel_rfl) (Below.refl _ _) ?_
  iterate 8 (refine zxc rfl (by rfl) (fun wx hx => by obtain ⟨⟨⟨a0, a1⟩, b0, b1⟩, ⟨c0, c1⟩, d0, d1⟩ := HT.out wx hx; go_simp; rfl) ?_; simp only [zp])
  refine zxn ?_
  refine zw 8 [] (by kernel_rfl) ?_
  refine readyZ.call rfl rfl (Rf25 (by rfl) (by rfl) (by simp only [zj]; rfl)) HO1.out ?_ readyZ.nil
  rintro e V8 ⟨rfl, hb8⟩
  refine ⟨_, rfl, fun _ => hb8, ?_⟩
  simp only [zp]
  refine zw 17 [] (by kernel_rfl) ?_
  refine readyZ.call rfl rfl (Rf25 (by rfl) (by rfl) (by simp only [zj]; rfl)) (HO2.out V8) ?_ readyZ.nil
  rintro e V9 ⟨rfl, hb9'⟩
  have hb9 := bt hb8 hb9'
  refine ⟨_, rfl, fun _ => hb9, ?_⟩
  simp only [zp]
  refine zw 18 [] (by kernel_rfl) ?_
  refine readyZ.cons rfl rfl (v' := .int .i64 dx) (run_as (by rfl) (by rfl)) (fun _ => hb9) ?_ readyZ.nil
  simp only [zp]
  refine zw 19 [] (by kernel_rfl) ?_
  refine readyZ.cons rfl rfl (v' := .int .i64 dy) (run_as (by rfl) (by rfl)) (fun _ => hb9) ?_ readyZ.nil
  simp only [zp]
  refine anyZ_done (by kernel_rfl) ?_ _
  dsimp only [Only, Exit.then]
  have HE := hide (bt HB.out hb9)
  clear hb8 hb9 hb9'
  by_cases hd : dx = dy
  · subst hd
    by_cases hv : u = v
    · subst hv
      go_wp2_with fail
      go_ret
      refine ⟨_, rfl, ?_, HE.out⟩
      rw [HL.out, decide_eq_true_iff]
      refine ⟨fun h => .inr ⟨by trivial, .inr ⟨by trivial, by omega⟩⟩, fun h => ?_⟩
      rcases h with h | ⟨-, h | ⟨-, h⟩⟩ <;> omega
    · have hn : ((u : Int) != (v : Nat)) = true := by simp; omega
      go_wp2_with fail
      go_ret
      refine ⟨_, rfl, ?_, HE.out⟩
      rw [HL.out, decide_eq_true_iff]
      refine ⟨fun h => .inr ⟨by trivial, .inl (by omega)⟩, fun h => ?_⟩
      rcases h with h | ⟨-, h | ⟨h, -⟩⟩ <;> omega
  · have hn : (dx != dy) = true := by simpa using hd
    go_wp2_with fail
    go_ret
    refine ⟨_, rfl, ?_, HE.out⟩
    rw [HL.out, decide_eq_true_iff]
    omega
end Go.Proofs.Ytmkoleioipklpaa
