/-
  The order of pairs: the closure that compares them.
-/
import Derived.Test.YtmkoleioipklpaaOrd
import Derived.Test.YtmkoleioipklpaaAs
namespace Go.Proofs.Ytmkoleioipklpaa
open Go.RowKit Go.Shelf Go.Sort Go.Lib
set_option linter.unusedVariables false
set_option linter.unusedSimpArgs false
attribute [local go_sem] Oper.semAt_some
/-- How a pair is held against another one. -/
def cfN (d : Nat → Nat → Int) (x y : Nat × Nat) : Int := if cmpI (d x.1 x.2) (d y.1 y.2) = 0 then orI (cmpI (x.1 : Nat) (y.1 : Nat)) (cmpI (x.2 : Nat) (y.2 : Nat)) else cmpI (d x.1 x.2) (d y.1 y.2)
theorem cfN_lt (d : Nat → Nat → Int) (x y : Nat × Nat) : cfN d x y < 0 ↔ ltD d x y := by
  have h1 := cmpI_neg (d x.1 x.2) (d y.1 y.2)
  have h2 := cmpI_neg (x.1 : Nat) (y.1 : Nat)
  have h3 := cmpI_neg (x.2 : Nat) (y.2 : Nat)
  unfold cfN ltD orI
  split
  · rename_i e
    have e' := h1.2.1 e
    split
    · rename_i e2
      have e3 := h2.2.1 e2
      rw [h3.1]
      omega
    · rename_i e2
      have e3 : ¬ ((x.1 : Nat) : Int) = (y.1 : Nat) := fun q => e2 (h2.2.2 q)
      rw [h2.1]
      omega
  · rename_i e
    have e' : ¬ d x.1 x.2 = d y.1 y.2 := fun q => e (h1.2.2 q)
    rw [h1.1]
    omega
theorem cmpI_bnd (a b : Int) : -1 ≤ cmpI a b ∧ cmpI a b ≤ 1 := by
  unfold cmpI
  split
  · omega
  · split <;> omega
theorem RfE {ev : Operand → Value} {o : Oper} {w : World} {x : Operand} {ar : Array Operand} {ts : Array TypeId} {A B : Nat} {v : Value} (hop : o.op = .call { callee := .value x, args := ar, argTypes := ts }) (hf : ev x = .func (.func 30) #[] #[ptr A, ptr B]) (hvs : ar.map ev = #[v]) : (execOp ev o).run Try.prog w = .ok (.enter 30 #[v, ptr A, ptr B]) w := by
  unfold execOp
  simp only [hop, resolve, hf, hvs]
  go_simp
theorem Rf32 : Rcl 32 := zl fun _ _ => by go_simp
theorem Rf33 : Rcl 33 := zl fun _ _ => by go_simp
/-- The step behind the distances: the pairs lie in two boxes. -/
structure Bx2 (w : World) (h1 h2 : Nat) (x y : Nat × Nat) : Prop where
  k1 : Bk w h1 40 (prCs x)
  k2 : Bk w h2 40 (prCs y)
theorem Bx2.upto {w w' : World} {h1 h2 : Nat} {x y : Nat × Nat} (h : Bx2 w h1 h2 x y) (hb : Below w.heap.size w w') : Bx2 w' h1 h2 x y := ⟨h.k1.upto hb, h.k2.upto hb⟩
set_option maxRecDepth 100000 in
set_option maxHeartbeats 4000000 in
theorem order_is {w : World} {D A B : Nat} {va vp : Value} {n : Nat} {d : Nat → Nat → Int} (h : Env w D A B va vp n d) {u p v q : Nat} (hu : u < n) (hp : p < n) (hv : v < n) (hq : q < n) :
    Calls Try.prog 31 #[prV (u, p), prV (v, q), ptr D] w fun e w' => e = .returned (.int .i64 (cfN d (u, p) (v, q))) ∧ GrD w w' := by
  go_enter Try.func31, Try.ntmps31
  go_wp2_with fail
  obtain ⟨X, hX⟩ : ∃ X, (w.alloc (.cells #[.int .i64 (u : Nat), .int .i64 (p : Nat)] 40)).alloc (.cells #[.int .i64 (v : Nat), .int .i64 (q : Nat)] 40) = X := ⟨_, rfl⟩
  have BX : Below w.heap.size w X := by rw [← hX]; exact box2 _ _ _
  have GX : GrD w X := hX ▸ (GrD.box w _).trans (GrD.box _ _)
  have KX : Bx2 X w.heap.size (w.heap.size + 1) (u, p) (v, q) := by
    rw [← hX]
    refine ⟨(Bk.new _ _ _).upto (box1 _ _), ?_⟩
    exact Bk.new2 w _ 40 (prCs (v, q))
  have EX := h.upto BX
  rw [hX]
  obtain ⟨b1, hb1⟩ : ∃ b, w.heap.size = b := ⟨_, rfl⟩
  obtain ⟨b2, hb2⟩ : ∃ b, w.heap.size + 1 = b := ⟨_, rfl⟩
  rw [hb2, hb1] at KX
  rw [hb2, hb1]
  obtain ⟨Y, hY⟩ : ∃ Y, X.drew = Y := ⟨_, rfl⟩
  have GY : GrD X Y := hY ▸ GrD.draw X
  have EY := EX.upto GY.below
  have KY := KX.upto GY.below
  have HR : Hid (∀ wx, GrD Y wx → Bx2 wx b1 b2 (u, p) (v, q) ∧ Env wx D A B va vp n d) := hide fun wx hx => ⟨KY.upto hx.below, EY.upto hx.below⟩
  have HG := hide (GX.trans GY)
  have HY := hide hY
  clear hX BX GX KX EX h GY EY KY hY hb1 hb2
  refine wp_only ?_
  refine wp_region_z (fun wx : World => GrD Y wx) [] (by kernel_rfl) ?_
  rw [HY.out]
  refine zx 0 2 12 rfl (by kernel_rfl) (GrD.refl _) ?_
  refine zxc (v := .func (.func 30) #[] #[ptr A, ptr B]) rfl (by rfl) (fun wx hx => by have := (HR.out wx hx).2.kD.cell 0 _ rfl; go_simp) ?_; simp only [zp]
  refine zxc (v := prV (u, p)) rfl (by rfl) (fun wx hx => by have k := (HR.out wx hx).1.k1; have c0 := k.cell 0 _ rfl; have c1 := k.cell 1 _ rfl; go_simp) ?_; simp only [zp]
  refine zxn ?_
  refine zx 3 2 12 rfl (by kernel_rfl) (GrD.refl _) ?_
  refine zxc (v := .func (.func 30) #[] #[ptr A, ptr B]) rfl (by rfl) (fun wx hx => by have := (HR.out wx hx).2.kD.cell 0 _ rfl; go_simp) ?_; simp only [zp]
  refine zxc (v := prV (v, q)) rfl (by rfl) (fun wx hx => by have k := (HR.out wx hx).1.k2; have c0 := k.cell 0 _ rfl; have c1 := k.cell 1 _ rfl; go_simp) ?_; simp only [zp]
  refine zxn ?_
  refine zw 2 [] (by kernel_rfl) ?_
  refine readyZ.call rfl rfl (RfE (by rfl) (by rfl) (by simp only [zj]; rfl)) (distance_is (HR.out Y (GrD.refl _)).2 hu hp) ?_ readyZ.nil
  rintro e V2 ⟨rfl, g2⟩
  refine ⟨_, rfl, fun _ => g2, ?_⟩
  simp only [zp]
  refine zw 5 [] (by kernel_rfl) ?_
  refine readyZ.call rfl rfl (RfE (by rfl) (by rfl) (by simp only [zj]; rfl)) (distance_is (HR.out V2 g2).2 hv hq) ?_ readyZ.nil
  rintro e V5 ⟨rfl, g5'⟩
  have g5 := g2.trans g5'
  clear g2 g5'
  refine ⟨_, rfl, fun _ => g5, ?_⟩
  simp only [zp]
  obtain ⟨dx, hdx⟩ : ∃ z, d u p = z := ⟨_, rfl⟩
  obtain ⟨dy, hdy⟩ : ∃ z, d v q = z := ⟨_, rfl⟩
  have hE : cfN d (u, p) (v, q) = if cmpI dx dy = 0 then orI (cmpI (u : Nat) (v : Nat)) (cmpI (p : Nat) (q : Nat)) else cmpI dx dy := by unfold cfN; rw [hdx, hdy]
  obtain ⟨z, hz⟩ : ∃ z, cmpI dx dy = z := ⟨_, rfl⟩
  obtain ⟨s, hs⟩ : ∃ s, cmpI (u : Nat) (v : Nat) = s := ⟨_, rfl⟩
  obtain ⟨t, ht⟩ : ∃ t, cmpI (p : Nat) (q : Nat) = t := ⟨_, rfl⟩
  rw [hz, hs, ht] at hE
  have HE := hide hE
  have HS := hide (And.intro hs ht)
  have HC := hide (cmp_any dx dy V5)
  rw [hz] at HC
  rw [hdx, hdy]
  have hzb : -1 ≤ z ∧ z ≤ 1 := hz ▸ cmpI_bnd dx dy
  clear hE hdx hdy hz hs ht
  refine zw 6 [] (by kernel_rfl) ?_
  refine readyZ.call rfl rfl (Rf32 (by rfl) (by rfl) (by simp only [zj]; rfl)) HC.out ?_ readyZ.nil
  rintro e V6 ⟨rfl, rfl⟩
  refine ⟨_, rfl, fun _ => g5, ?_⟩
  simp only [zp]
  refine zw 7 [] (by kernel_rfl) ?_
  refine readyZ.cons rfl rfl (v' := .int .i64 z) (run_as (by rfl) (by rfl)) (fun _ => g5) ?_ readyZ.nil
  simp only [zp]
  refine anyZ_done (by kernel_rfl) ?_ _
  dsimp only [Only, Exit.then]
  by_cases h0 : z = 0
  · subst h0
    go_wp2_with fail
    obtain ⟨W, hW⟩ : ∃ W, V6.drew = W := ⟨_, rfl⟩
    have gW : GrD Y W := hW ▸ g5.trans (GrD.draw V6)
    have HW := hide hW
    have HR2 : Hid (∀ wx, GrD W wx → Bx2 wx b1 b2 (u, p) (v, q)) := hide fun wx hx => (HR.out wx (gW.trans hx)).1
    have HGW := hide (HG.out.trans gW)
    have HC1 := hide (cmp_any (u : Nat) (v : Nat) W)
    have HC2 := hide (cmp_any (p : Nat) (q : Nat) W)
    rw [HS.out.1] at HC1
    rw [HS.out.2] at HC2
    clear hW gW g5 HR HG hzb HC HS
    refine wp_only ?_
    refine wp_region_z (fun wx : World => GrD W wx) [] (by kernel_rfl) ?_
    rw [HW.out]
    refine zx 0 4 16 rfl (by kernel_rfl) (GrD.refl _) ?_
    iterate 4 (refine zxc rfl (by rfl) (fun wx hx => by obtain ⟨k1, k2⟩ := HR2.out wx hx; have c0 := k1.cell 0 _ rfl; have c1 := k2.cell 0 _ rfl; go_simp; rfl) ?_; simp only [zp])
    refine zxn ?_
    refine zx 5 4 16 rfl (by kernel_rfl) (GrD.refl _) ?_
    iterate 4 (refine zxc rfl (by rfl) (fun wx hx => by obtain ⟨k1, k2⟩ := HR2.out wx hx; have c0 := k1.cell 1 _ rfl; have c1 := k2.cell 1 _ rfl; go_simp; rfl) ?_; simp only [zp])
    refine zxn ?_
    refine zw 4 [] (by kernel_rfl) ?_
    refine readyZ.call rfl rfl (Rf32 (by rfl) (by rfl) (by simp only [zj]; rfl)) HC1.out ?_ readyZ.nil
    rintro e W4 ⟨rfl, rfl⟩
    refine ⟨_, rfl, fun _ => GrD.refl _, ?_⟩
    simp only [zp]
    refine zw 9 [] (by kernel_rfl) ?_
    refine readyZ.call rfl rfl (Rf32 (by rfl) (by rfl) (by simp only [zj]; rfl)) HC2.out ?_ readyZ.nil
    rintro e W9 ⟨rfl, rfl⟩
    refine ⟨_, rfl, fun _ => GrD.refl _, ?_⟩
    simp only [zp]
    obtain ⟨Z, hZ⟩ : ∃ Z, W9.alloc (.cells #[.int .i64 s, .int .i64 t] 3) = Z := ⟨_, rfl⟩
    have gZ : GrD W9 Z := hZ ▸ GrD.box _ _
    have cZ : Z.heap[W9.heap.size]? = some (.cells #[.int .i64 s, .int .i64 t] 3) := by rw [← hZ]; exact heap_alloc_new _ _
    refine zw 10 [] (by kernel_rfl) ?_
    refine readyZ.cons rfl rfl (w' := Z) (hZ ▸ run_ints2 (by rfl) (by rfl) (by rfl)) (fun _ => gZ) ?_ readyZ.nil
    simp only [zp]
    refine zw 11 [] (by kernel_rfl) ?_
    refine readyZ.call rfl rfl (Rf33 (by rfl) (by rfl) (by simp only [zj]; rfl)) (or_two W9.heap.size s t Z cZ) ?_ readyZ.nil
    rintro e Z2 ⟨rfl, rfl⟩
    refine ⟨_, rfl, fun _ => gZ, ?_⟩
    simp only [zp]
    refine zw 12 [] (by kernel_rfl) ?_
    refine readyZ.cons rfl rfl (v' := .int .i64 (orI s t)) (run_as (by rfl) (by rfl)) (fun _ => gZ) ?_ readyZ.nil
    simp only [zp]
    refine anyZ_done (by kernel_rfl) ?_ _
    dsimp only [Only, Exit.then]
    go_wp2_with fail
    go_ret
    exact ⟨by show Ending.returned (.int .i64 (orI s t)) = Ending.returned (.int .i64 (cfN d (u, p) (v, q))); rw [HE.out]; simp, HGW.out.trans gZ⟩
  · go_wp2_with fail
    go_ret
    exact ⟨by show Ending.returned (.int .i64 z) = Ending.returned (.int .i64 (cfN d (u, p) (v, q))); rw [HE.out, if_neg h0], HG.out.trans g5⟩
end Go.Proofs.Ytmkoleioipklpaa
