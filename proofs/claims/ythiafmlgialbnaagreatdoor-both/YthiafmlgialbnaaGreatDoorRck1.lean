/-
  Of each node of a cluster the edges that lead to its neighbours: the loop. What a cluster's nodes and edges are when it is reckoned; small runs. A graph whole, and the world beneath it: what stays when maps of the graph's own are turned. reckon: a cluster's nodes and edges, by the world as it is.
-/
import Derived.Test.YthiafmlgialbnaaGreatDoorAcr0
set_option linter.unusedSimpArgs false
namespace Go.Proofs.YthiafmlgialbnaaGreatDoor
open Go.RowKit Go.Shelf
set_option linter.unusedVariables false
attribute [local go_sem] Oper.semAt_some
/-- What the rounds over a cluster's neighbours keep. -/
structure AcI (w Y : World) (gp : Nat) (kx ky : Int) (B : Nat) (L : List Q4) : Prop where
  bel : Below w.heap.size w Y
  b0 : Boxed Y w.heap.size 34 (ptr gp)
  b1 : Y.heap[w.heap.size + 1]? = some (.cells #[.int .i64 kx, .int .i64 ky] 47 (0, 0))
  b3 : Boxed Y (w.heap.size + 3) 65 (.map (some (w.heap.size + 2)))
  ac : AcS (w.heap.size + 4) Y (w.heap.size + 2) L
  sz : B ≤ Y.heap.size
section
variable {w Y Y' : World} {gp : Nat} {kx ky : Int} {B : Nat} {L : List Q4}
theorem AcI.turned {S : Nat → Prop} (h : AcI w Y gp kx ky B L) (T : Turns S Y Y') (hlo : ∀ k, S k → w.heap.size ≤ k) (hm : ¬ S (w.heap.size + 2)) (hc : ∀ k o, S k → Y.heap[k]? = some o → o.isCells = false) : AcI w Y' gp kx ky B L := by
  have hn : ∀ {k : Nat} {cs : Array Value} {t : Nat} {fz : Nat × Nat}, Y.heap[k]? = some (.cells cs t fz) → ¬ S k := fun hk hs => by have := hc _ _ hs hk; cases this
  exact ⟨h.bel.trans (T.below hlo h.bel.size), boxed_kept h.b0 T (hn h.b0), T.same (hn h.b1) h.b1, boxed_kept h.b3 T (hn h.b3), h.ac.kept T hm (fun g cur hk => hn hk), Nat.le_trans h.sz T.size⟩
theorem AcI.upto (h : AcI w Y gp kx ky B L) (hb : Below Y.heap.size Y Y') : AcI w Y' gp kx ky B L := h.turned (S := NoB) (Turns.of_below hb) (fun _ q => q.elim) id (fun _ _ q => q.elim)
theorem AcI.own_from (hB : w.heap.size + 4 ≤ B) {β : Type} (fl : β → List Q4) : OwnFrom B (fun b Y => AcI w Y gp kx ky B (fl b)) := by
  intro b X Y row h hg hr
  exact h.turned (S := fun k => row = some k) (Turns.of_grown hg (fun k e => e)) (fun k e => by have := (hr k e).1; omega) (fun e => by have := (hr _ e).1; omega) (fun k o e ho => by
    obtain ⟨-, o', ho', hn⟩ := hr k e
    rw [ho] at ho'
    cases ho'
    exact hn)
/-- One portal more. -/
theorem AcI.add (h : AcI w Y gp kx ky B L) (hB : w.heap.size + 4 ≤ B) (t : Q4) (hx : W64 t.x) (hy : W64 t.y) (hlen : L.length ≤ 500) :
    ∃ fv st w1 v2 w2 w3, (∃ a n c, fv = .slice a n c) ∧ (∃ a n c, v2 = .slice a n c) ∧ (Instr.mapEntry 65 (.map (some (w.heap.size + 2))) (cel t.x t.y)).run Tryz.prog (Y.alloc (.cells #[.int .i64 t.a, .int .i64 t.b, .int .i64 10] 63)) = .ok (.tuple #[fv, .int .i64 (st : Nat)]) w1 ∧
      (Builtin.append_ #[60, 60] 60 #[fv, .slice (some ⟨Y.heap.size, 0, none⟩) 1 1]).run Tryz.prog w1 = .ok v2 w2 ∧ (Instr.entryStore 65 (.map (some (w.heap.size + 2))) (.int .i64 (st : Nat)) v2).run Tryz.prog w2 = .ok () w3 ∧
      AcI w w3 gp kx ky B (L ++ [t]) ∧ KeepT 63 B Y w3 ∧ w3.heap[0]? = Y.heap[0]? ∧ (∀ lv M, Rq 122 Y lv M → Rq 122 w3 lv M) := by
  obtain ⟨fv, st, w1, v2, w2, w3, f1, f2, r1, r2, r3, a3, So, T, hSo⟩ := h.ac.add t hx hy hlen (Nat.le_trans hB h.sz)
  have hs := h.bel.size
  have hsz := h.sz
  have hn : ∀ {k : Nat} {cs : Array Value} {u : Nat}, Y.heap[k]? = some (.cells cs u (0, 0)) → u ≠ 63 → ¬ So k := fun hk hu hs => by
    rcases hSo _ hs with e | ⟨cur, e, -⟩
    · obtain ⟨K, F, m, -⟩ := h.ac
      exact map_ne m.mp hk e
    · rw [hk] at e; cases e; exact hu rfl
  refine ⟨fv, st, w1, v2, w2, w3, f1, f2, r1, r2, r3, ⟨h.bel.trans (T.below (fun k e => ?_) h.bel.size), boxed_kept h.b0 T (hn h.b0 (by decide)), T.same (hn h.b1 (by decide)) h.b1, boxed_kept h.b3 T (hn h.b3 (by decide)), a3, Nat.le_trans h.sz T.size⟩, ⟨T.size, fun k o hk ho hno => ?_⟩, ?_, fun lv M hM => hM.kept T (fun g e => ?_)⟩
  · rcases hSo k e with q | ⟨_, _, q⟩ <;> omega
  · refine T.same (fun e => ?_) ho
    rcases hSo k e with q | ⟨cur, q, -⟩
    · omega
    · rw [q] at ho; cases ho; cases hno
  · by_cases h0 : 0 < Y.heap.size
    · exact T.block 0 h0 (fun e => by rcases hSo 0 e with q | ⟨_, _, q⟩ <;> omega)
    · omega
  · obtain ⟨cur, hc⟩ := hM.blk e
    exact hn hc (by decide)
end
theorem ptQ_small {S : Int → Int → Bool} {W H kx ky : Int} (hW : 1 ≤ W ∧ W ≤ 128) (hH : 1 ≤ H ∧ H ≤ 128) (hS : ∀ u v, S u v = true → (0 ≤ u ∧ u < W) ∧ 0 ≤ v ∧ v < H) {d : Nat} {t : Q4} (ht : t ∈ prtL S W H kx ky d) : W64 t.x ∧ W64 t.y := by
  by_cases hd : d < 4
  · have := hS _ _ (prtL_mem hW hH hS hd ht).2.2.2.1
    exact ⟨w64_of (by omega), w64_of (by omega)⟩
  · match d, hd with
    | 0, h => exact absurd (by decide) h
    | 1, h => exact absurd (by decide) h
    | 2, h => exact absurd (by decide) h
    | 3, h => exact absurd (by decide) h
    | d + 4, _ => simp [prtL] at ht
set_option maxRecDepth 100000 in
set_option maxHeartbeats 8000000 in
theorem across_is {w : World} {gp p : Nat} {c s ep : Int} {wb eb : Nat} {W H : Int} {tl : List Nat} {f : Int → Int → Option Int} (hG : Gp w gp p c s ep wb eb) (hw : Wl w p W H tl f) (hg : Grnd w) (ho : Offs w) (hS : ∀ u v, stB W H tl f c s u v = true → (0 ≤ u ∧ u < W) ∧ 0 ≤ v ∧ v < H) (kx ky : Int) :
    Calls Tryz.prog 58 #[ptr gp, cel kx ky] w fun e w' => ∃ mb, e = .returned (.map (some mb)) ∧ AcS w.heap.size w' mb (acL (stB W H tl f c s) W H kx ky) ∧ w.heap.size ≤ mb ∧ Below w.heap.size w w' := by
  obtain ⟨hW, hH⟩ := hw.sides
  refine (callsIn_wide (n := 10)).1 ?_
  refine callsIn_of_wp_marks Tryz.func58 rfl trivial ?_ rfl
  simp only [Tryz.ntmps58, List.size_toArray, List.length_cons, List.length_nil, Nat.reduceAdd, Nat.reduceSub, Array.replicate_succ, Array.replicate_zero, List.push_toArray, List.append_toArray, List.nil_append, List.cons_append]
  obtain ⟨X, hX⟩ : ∃ X, (w.alloc (.cells #[ptr gp] 34)).alloc (.cells #[.int .i64 kx, .int .i64 ky] 47) = X := ⟨_, rfl⟩
  obtain ⟨V, hV⟩ : ∃ V, (X.alloc (.map #[] 0)).alloc (.cells #[.map (some (w.heap.size + 2))] 65) = V := ⟨_, rfl⟩
  have zX : X.heap.size = w.heap.size + 2 := by rw [← hX]; simp
  have zV : V.heap.size = w.heap.size + 4 := by rw [← hV]; simp [zX]
  have BX : Below w.heap.size w X := hX ▸ box2 _ _ _
  have BXV : Below X.heap.size X V := hV ▸ box2 _ _ _
  have BV := bt BX BXV
  have o0 : Boxed V w.heap.size 34 (ptr gp) := by
    refine boxed_upto ?_ BXV (by omega)
    rw [← hX]; exact (Boxed.new w 34 _).alloc _
  have o1 : V.heap[w.heap.size + 1]? = some (.cells #[.int .i64 kx, .int .i64 ky] 47 (0, 0)) := by
    refine (BXV.block _ (by omega)).trans ?_
    rw [← hX]; have := World.alloc_heap_new (w.alloc (.cells #[ptr gp] 34)) (.cells #[.int .i64 kx, .int .i64 ky] 47); rwa [World.size_alloc] at this
  have o3 : Boxed V (w.heap.size + 3) 65 (.map (some (w.heap.size + 2))) := by
    rw [← hV]; have := Boxed.new (X.alloc (.map #[] 0)) 65 (.map (some (w.heap.size + 2)))
    rw [World.size_alloc, zX] at this; exact this
  have o2 : AcS (w.heap.size + 4) V (w.heap.size + 2) [] := by
    have m := MapS.made isS_nil X
    rw [zX] at m
    refine ⟨[], _, ⟨m.upto (by rw [← hV]; exact box1 _ _), fun x y => Rw.nil _ _ _ _, fun x y u v g e => (by cases e), fun x y g e => (by cases e)⟩, fun q => by simp, Nat.le_refl _⟩
  have I0 : AcI w V gp kx ky V.heap.size [] := ⟨BV, o0, o1, o3, o2, Nat.le_refl _⟩
  have hd : Below V.heap.size V V.drew := ⟨rfl, rfl, rfl, Nat.le_refl _, fun _ _ => rfl⟩
  have GV := hG.upto (bt BV hd)
  have h0 := GV.c0
  have c0 := (boxed_upto o0 hd o0.lt).cell
  have e0 : V.drew.cell? ⟨w.heap.size + 1, 0, none⟩ = some (.int .i64 kx) := by rw [cell_of_row V.drew _ 0 _ _ _ o1]; rfl
  have e1 : V.drew.cell? ⟨w.heap.size + 1, 1, none⟩ = some (.int .i64 ky) := by rw [cell_of_row V.drew _ 1 _ _ _ o1]; rfl
  have HS : V.drew.cell? ⟨gp, 0, none⟩ = some (ptr p) ∧ V.drew.cell? ⟨w.heap.size, 0, none⟩ = some (ptr gp) ∧ V.drew.cell? ⟨w.heap.size + 1, 0, none⟩ = some (.int .i64 kx) ∧ V.drew.cell? ⟨w.heap.size + 1, 1, none⟩ = some (.int .i64 ky) := ⟨h0, c0, e0, e1⟩
  have Hd := hide hd
  have HI0 := hide I0
  have HBV := hide BV
  have Hall := hide (And.intro hG (And.intro hw (And.intro hg (And.intro ho hS))))
  have HX := hide hX
  have HV := hide hV
  have HWH := hide (And.intro hW hH)
  have hgl := hG.lt
  clear BX BXV BV o0 o1 o2 o3 I0 hd GV h0 c0 e0 e1 hX hV hG hw hg ho hS hW hH
  have hmm := run_makeMap (P := Tryz.prog) 65 X
  rw [zX] at hmm
  gi_wp2_with (first | rw [HX.out] | rw [HV.out])
  clear hmm
  refine wpIn_only ?_
  refine wpIn_region_zW (fun wx : World => wx.cell? ⟨gp, 0, none⟩ = some (ptr p) ∧ wx.cell? ⟨w.heap.size, 0, none⟩ = some (ptr gp) ∧ wx.cell? ⟨w.heap.size + 1, 0, none⟩ = some (.int .i64 kx) ∧ wx.cell? ⟨w.heap.size + 1, 1, none⟩ = some (.int .i64 ky)) [5] (by kernel_rfl) ?_
  refine anyZ_take 0 8 (v := ptr gp) rfl (by kernel_rfl) (fun _ _ _ h => h.elim) (Or.inl ⟨by rfl, fun wx hx => by obtain ⟨x0, x1, x2, x3⟩ := hx; clear HS; go_simp⟩) HS ?_
  try simp only [Act.put, List.getElem_toArray, List.getElem_cons_zero, List.getElem_cons_succ, List.setIfInBounds_toArray, List.set_cons_zero, List.set_cons_succ]
  refine anyZ_take 1 8 (v := ptr gp) rfl (by kernel_rfl) (fun _ _ _ h => h.elim) (Or.inl ⟨by rfl, fun wx hx => by obtain ⟨x0, x1, x2, x3⟩ := hx; clear HS; go_simp⟩) HS ?_
  try simp only [Act.put, List.getElem_toArray, List.getElem_cons_zero, List.getElem_cons_succ, List.setIfInBounds_toArray, List.set_cons_zero, List.set_cons_succ]
  refine anyZ_take 2 8 (v := .pointer (some ⟨gp, 0, none⟩)) rfl (by kernel_rfl) (fun _ _ _ h => h.elim) (Or.inl ⟨by rfl, fun wx hx => by obtain ⟨x0, x1, x2, x3⟩ := hx; clear HS; go_simp⟩) HS ?_
  try simp only [Act.put, List.getElem_toArray, List.getElem_cons_zero, List.getElem_cons_succ, List.setIfInBounds_toArray, List.set_cons_zero, List.set_cons_succ]
  refine anyZ_take 3 8 (v := ptr p) rfl (by kernel_rfl) (fun _ _ _ h => h.elim) (Or.inl ⟨by rfl, fun wx hx => by obtain ⟨x0, x1, x2, x3⟩ := hx; clear HS; go_simp⟩) HS ?_
  try simp only [Act.put, List.getElem_toArray, List.getElem_cons_zero, List.getElem_cons_succ, List.setIfInBounds_toArray, List.set_cons_zero, List.set_cons_succ]
  refine anyZ_take 4 8 (v := cel kx ky) rfl (by kernel_rfl) (fun _ _ _ h => h.elim) (Or.inl ⟨by rfl, fun wx hx => by obtain ⟨x0, x1, x2, x3⟩ := hx; clear HS; go_simp⟩) HS ?_
  try simp only [Act.put, List.getElem_toArray, List.getElem_cons_zero, List.getElem_cons_succ, List.setIfInBounds_toArray, List.set_cons_zero, List.set_cons_succ]
  refine anyZ_ready (rs := [5]) (by kernel_rfl) (by simp) ?_
  refine readyZ.call rfl rfl (run_c88 (by rfl) (by rfl) (by simp only [List.map_toArray, List.map_cons, List.map_nil]; rfl)) (around88 p kx ky _) ?_ readyZ.nil
  rintro e w1 ⟨rfl, hw1⟩
  refine ⟨_, rfl, fun h => absurd (by decide) h, ?_⟩
  try simp only [Act.put, List.getElem_toArray, List.getElem_cons_zero, List.getElem_cons_succ, List.setIfInBounds_toArray, List.set_cons_zero, List.set_cons_succ]
  refine anyZ_done (by kernel_rfl) ?_ _
  dsimp only [Only, Exit.then]
  clear HS
  have z1 : w1.heap.size = w.heap.size + 6 := by rw [hw1]; simp [show V.drew.heap.size = V.heap.size from rfl, zV]
  have zD : V.drew.heap.size = w.heap.size + 4 := zV
  have B1 : Below V.heap.size V w1 := by rw [hw1]; exact bt Hd.out (box2 _ _ _)
  have P1 : Boxed w1 (w.heap.size + 4) 29 (ptr p) := by
    rw [hw1, ← zD]; exact (Boxed.new V.drew 29 _).alloc _
  have T1 : Two w1 (w.heap.size + 4 + 1) kx ky := by rw [hw1, ← zD]; exact Two.newAt (by simp)
  have BW1 := bt HBV.out B1
  have hseq := car_seqT 9 p (w.heap.size + 4) W H kx ky tl f w1 (by omega) P1 T1 (Hall.out.2.1.kept BW1) (Hall.out.2.2.2.1.kept BW1)
  have I1 : AcI w w1 gp kx ky w1.heap.size [] := by
    have q := HI0.out.upto B1
    exact ⟨q.bel, q.b0, q.b1, q.b3, q.ac, Nat.le_refl _⟩
  rw [zD]
  have hB4 : w.heap.size + 4 ≤ w1.heap.size := by omega
  have hr1 := (Hall.out.2.2.2.1.kept BW1).1
  clear hw1 zD
  gi_wp2_with fail
  refine range_nestT (n := 10) (ty := 63) (by omega) (gf := 121) (lb := #[ptr (w.heap.size + 4), ptr (w.heap.size + 4 + 1)]) rfl (enters_of Tryz.func121 (by kernel_rfl) rfl) hseq (fun h k => k.trans h) (kB_b (by omega)) (Below.refl _ _) (fun _ => rfl)
    (fun pre Y => AcI w Y gp kx ky w1.heap.size (pre.flatMap (fun d : Fin 8 => prtL (stB W H tl f c s) W H kx ky d.val))) (fun _ _ => False) (AcI.own_from hB4 _) (fun _ _ _ _ h _ _ => h.elim)
    I1
    (fun d a' Y => ∃ Bx, w1.heap.size ≤ Bx ∧ Y.heap[Bx]? = some (.cells #[.int .i64 (kx + dX d.val), .int .i64 (ky + dY d.val)] 47 (0, 0)) ∧ a' = { tmps := #[ptr gp, cel kx ky, ptr w.heap.size, ptr (w.heap.size + 1), .map none, ptr (w.heap.size + 2 + 1), .int .i64 ((d.val : Nat) : Int), ptr Bx, undef, undef, .map (some (w.heap.size + 2)), ptr gp, ptr gp, ptr gp, ptr p, cel kx ky, .func (.func 121) #[] #[ptr (w.heap.size + 4), ptr (w.heap.size + 4 + 1)], .int .i64 ((d.val : Nat) : Int), cel (kx + dX d.val) (ky + dY d.val), undef, undef, undef, undef, undef, undef, undef, undef, undef, undef, undef, undef, undef, undef, undef, undef, undef, undef, undef, undef, undef, undef, undef], defers := [] })
    (fun q a' _ Y Z row hs hg hr => by
      obtain ⟨B, h1, h2, h3⟩ := hs
      exact ⟨B, h1, cells_own (β := Unit) w1.heap.size B _ _ () Y Z row h2 hg hr, h3⟩)
    ?assign ?body ?done ?stop
  case assign =>
    rintro lo pre d Y K hI hK
    have b1 := box1 Y (.cells #[.int .i64 (kx + dX d.val), .int .i64 (ky + dY d.val)] 47)
    have hn := heap_alloc_new Y (.cells #[.int .i64 (kx + dX d.val), .int .i64 (ky + dY d.val)] 47)
    have HE := hide (And.intro (hI.upto b1) (And.intro b1 (And.intro hn hI.sz)))
    clear b1 hn hI
    gi_wp2
    refine hK _ _ (KeepT.of_below HE.out.2.1) (HE.out.2.1.block 0 (by have := HE.out.2.2.2; omega)) HE.out.1 ⟨Y.heap.size, HE.out.2.2.2, HE.out.2.2.1, rfl⟩
  case body =>
    rintro lo pre d a' Y hlo hI ⟨Bx, hBx, hBc, rfl⟩ hlt
    obtain ⟨nx, hnx⟩ : ∃ nx, kx + dX d.val = nx := ⟨_, rfl⟩
    obtain ⟨ny, hny⟩ : ∃ ny, ky + dY d.val = ny := ⟨_, rfl⟩
    have c0 := hI.b0.cell
    have e0 : Y.cell? ⟨w.heap.size + 1, 0, none⟩ = some (.int .i64 kx) := by rw [cell_of_row Y _ 0 _ _ _ hI.b1]; rfl
    have e1 : Y.cell? ⟨w.heap.size + 1, 1, none⟩ = some (.int .i64 ky) := by rw [cell_of_row Y _ 1 _ _ _ hI.b1]; rfl
    have f0 : Y.cell? ⟨Bx, 0, none⟩ = some (.int .i64 (kx + dX d.val)) := by rw [cell_of_row Y _ 0 _ _ _ hBc]; rfl
    have f1 : Y.cell? ⟨Bx, 1, none⟩ = some (.int .i64 (ky + dY d.val)) := by rw [cell_of_row Y _ 1 _ _ _ hBc]; rfl
    have HP := hide (portals_is (Hall.out.1.upto hI.bel) (Hall.out.2.1.kept hI.bel) (Hall.out.2.2.1.kept hI.bel) (Hall.out.2.2.2.1.kept hI.bel) Hall.out.2.2.2.2 kx ky d)
    have HPl := hide (prtL_len (S := stB W H tl f c s) (W := W) (H := H) (kx := kx) (ky := ky) d.val)
    have HPm := hide (fun t (ht : t ∈ prtL (stB W H tl f c s) W H kx ky d.val) => ptQ_small HWH.out.1 HWH.out.2 Hall.out.2.2.2.2 ht)
    have hfl : (pre ++ [d]).flatMap (fun d : Fin 8 => prtL (stB W H tl f c s) W H kx ky d.val) = pre.flatMap (fun d : Fin 8 => prtL (stB W H tl f c s) W H kx ky d.val) ++ prtL (stB W H tl f c s) W H kx ky d.val := by simp
    have hpl : (pre.flatMap (fun d : Fin 8 => prtL (stB W H tl f c s) W H kx ky d.val)).length ≤ pre.length * 8 := by
      clear hlt hfl hI
      induction pre with
      | nil => simp
      | cons a r ih => rw [List.flatMap_cons, List.length_append, List.length_cons]; have := prtL_len (S := stB W H tl f c s) (W := W) (H := H) (kx := kx) (ky := ky) a.val; omega
    obtain ⟨L0, hL0⟩ : ∃ L0, pre.flatMap (fun d : Fin 8 => prtL (stB W H tl f c s) W H kx ky d.val) = L0 := ⟨_, rfl⟩
    obtain ⟨PL, hPL⟩ : ∃ PL, prtL (stB W H tl f c s) W H kx ky d.val = PL := ⟨_, rfl⟩
    have HLP : Hid ((pre ++ [d]).flatMap (fun d : Fin 8 => prtL (stB W H tl f c s) W H kx ky d.val) = L0 ++ PL) := hide (by rw [hfl, hL0, hPL])
    rw [hL0] at hI hpl
    rw [hPL] at HP HPl HPm
    rw [hnx, hny] at HP
    rw [hnx] at f0
    rw [hny] at f1
    simp only [hnx, hny]
    obtain ⟨dd, hdd⟩ : ∃ dd : Int, ((d.val : Nat) : Int) = dd := ⟨_, rfl⟩
    rw [hdd] at HP ⊢
    have HI := hide hI
    have hzY := hI.sz
    have Hsz := hide (And.intro z1 (And.intro zV (And.intro zX (And.intro hB4 (And.intro hr1 (And.intro hzY hlo))))))
    clear hI hBc hnx hny hfl hL0 hPL hdd HI0 hseq I1 z1 zV zX hr1 hzY hlo P1 T1 B1 BW1 HX HV hgl hBx
    gi_wp2_with fail
    refine ⟨trivial, ?_⟩
    refine (callsIn_wide.2 HP.out).mono ?_
    rintro e w2 ⟨lv, rfl, hR2, hb2, hown2⟩
    obtain ⟨la, lc, hlv⟩ := Rw.slice4 hR2
    subst hlv
    have HR2 := hide hR2
    have HI2 := hide (HI.out.upto hb2)
    have HB2 := hide hb2
    clear hR2 hb2 hown2 c0 e0 e1 f0 f1 HP
    gi_wp2_with fail
    gi_loopw [25] (fun v wr => ∃ i : Nat, v = .int .i64 (i : Nat) ∧ i ≤ PL.length ∧ Rq 122 wr (.slice la PL.length lc) PL ∧ AcI w wr gp kx ky w1.heap.size (L0 ++ PL.take i) ∧ KeepT 63 w1.heap.size Y wr ∧ wr.heap[0]? = Y.heap[0]?) (fun v _ => PL.length - (intOf v).toNat)
    case atStart => exact ⟨0, rfl, Nat.zero_le _, HR2.out, by simpa using HI2.out, KeepT.of_below HB2.out, HB2.out.block 0 (by have := Hsz.out; omega)⟩
    case round =>
      obtain ⟨i, rfl, hi, hR, hIr, hK, h0r⟩ := hrel
      by_cases hlt2 : i < PL.length
      · obtain ⟨t, ht⟩ : ∃ t, PL[i]? = some t := ⟨_, List.getElem?_eq_getElem hlt2⟩
        have htm := HPm.out t (List.mem_of_getElem? ht)
        obtain ⟨g, rfl, hgl2, ⟨a0, a1, a2, a3⟩, hfz⟩ := Rw.atq hR ht
        obtain ⟨Z, hZ⟩ : ∃ Z, wr.alloc (.cells #[.int .i64 t.x, .int .i64 t.y, .int .i64 t.a, .int .i64 t.b] 122) = Z := ⟨_, rfl⟩
        have bZ : Below wr.heap.size wr Z := hZ ▸ box1 _ _
        have F4 : Four Z wr.heap.size t.x t.y t.a t.b := by rw [← hZ]; exact Four.new12 _ _ _ _ _ _
        have hIZ := hIr.upto bZ
        have cm := hIZ.b3.cell
        have hll : (L0 ++ PL.take i).length ≤ 500 := by rw [List.length_append, List.length_take]; have := HPl.out; omega
        obtain ⟨fv, st, x1, v2, x2, x3, ⟨fa, fn, fc, rfl⟩, ⟨va, vn, vc, rfl⟩, r1, r2, r3, q1, q2, q3, q4⟩ := hIZ.add hB4 t htm.1 htm.2 hll
        obtain ⟨Z1, hZ1⟩ : ∃ Z1, Z.alloc (.cells #[.int .i64 t.a, .int .i64 t.b, .int .i64 10] 63) = Z1 := ⟨_, rfl⟩
        rw [hZ1] at r1
        have bZ1 : Below Z.heap.size Z Z1 := hZ1 ▸ box1 _ _
        have cm1 := (boxed_upto hIZ.b3 bZ1 hIZ.b3.lt).cell
        have HN : Hid (Rq 122 x3 (.slice (some ⟨g, 0, none⟩) PL.length lc) PL ∧ AcI w x3 gp kx ky w1.heap.size (L0 ++ PL.take (i + 1)) ∧ KeepT 63 w1.heap.size Y x3 ∧ x3.heap[0]? = Y.heap[0]?) := hide ⟨q4 _ _ (hR.upto bZ), by rw [List.take_add_one, ht]; simpa [List.append_assoc] using q1, hK.trans ((KeepT.of_below bZ).trans q2), (q3.trans (bZ.block 0 (by have := hIr.sz; have := Hsz.out; omega))).trans h0r⟩
        obtain ⟨⟨f0, f1, f2, f3⟩, -, -⟩ := id F4
        have HZ := hide hZ
        have HZ1 := hide hZ1
        have HA := hide r2
        have hki : (i : Int) < (PL.length : Nat) := by omega
        clear hR hIr hK h0r hZ hZ1 bZ bZ1 F4 hIZ q1 q2 q3 q4 r2 ht htm hll hfz
        obtain ⟨tx, htx⟩ : ∃ z, t.x = z := ⟨_, rfl⟩
        obtain ⟨ty, hty⟩ : ∃ z, t.y = z := ⟨_, rfl⟩
        obtain ⟨ta, hta⟩ : ∃ z, t.a = z := ⟨_, rfl⟩
        obtain ⟨tb, htb⟩ : ∃ z, t.b = z := ⟨_, rfl⟩
        rw [htx, hty, hta, htb] at HZ
        rw [hta, htb] at HZ1
        rw [htx, hty] at r1
        rw [htx] at a0 f0
        rw [hty] at a1 f1
        rw [hta] at a2 f2
        rw [htb] at a3 f3
        clear htx hty hta htb t
        have Hb4 := hide hB4
        clear hB4 hpl hlt hlt2 hgl2
        have hb8 : PL.length ≤ 8 := HPl.out
        gi_wp2_with (rw [HZ.out])
        rw [HZ1.out, r1]
        gi_wp2_with (gi_at_builtin; refine wpListIn_append_runC rfl _ _ 60 rfl _ _ rfl rfl HA.out ?_)
        go_roundw
        case rel => exact ⟨i + 1, by go_num, by omega, HN.out.1, HN.out.2.1, HN.out.2.2.1, HN.out.2.2.2⟩
        case measure => simp only [intOf]; omega
      · have hi' : i = PL.length := by omega
        subst hi'
        rw [List.take_length] at hIr
        have HF := hide (And.intro hK (And.intro h0r hIr))
        clear hR hIr hK h0r
        gi_wp2_with fail
        refine ⟨HF.out.1, HF.out.2.1, ?_⟩
        show AcI w wr gp kx ky w1.heap.size _
        rw [HLP.out]
        exact HF.out.2.2
  case done =>
    rintro D xs Y hD rfl hI hK
    rw [nbs_all HWH.out.1 HWH.out.2 Hall.out.2.2.2.2] at hI
    have cv := hI.b3.cell
    have HI := hide hI
    clear hI
    gi_wp2_with fail
    refine ⟨by simp, .inl ⟨_, _, rfl, run_takeDeferred hK, ?_⟩⟩
    have tp : Turns (fun k => k = D) Y (Y.putObj D (.deferred none)) := turns_putC _ _ _ rfl
    have hI' := HI.out.turned tp (fun k e => by have := HI.out.bel.size; omega) (by omega) (fun k o e ho => by subst e; rw [hK] at ho; cases ho; rfl)
    obtain ⟨K, F, m1, m2, m3⟩ := hI'.ac
    exact ⟨.map (some (w.heap.size + 2)), by simp [results, Tryz.f58, go_sem], _, rfl, ⟨K, F, ⟨m1.mp, m1.rows, m1.apart, fun x y g e => by have := m1.own x y g e; omega⟩, m2, m3⟩, by omega, hI'.bel⟩
  case stop => exact fun D pre Y hD hp h hK => h.elim
end Go.Proofs.YthiafmlgialbnaaGreatDoor
set_option linter.unusedSimpArgs false
namespace Go.Proofs.YthiafmlgialbnaaGreatDoor
open Go.RowKit Go.Shelf
set_option linter.unusedVariables false
section
variable {ev : Operand → Value} {o : Oper} {w w2 : World}
theorem run_look {z : Value} {b : Nat} {K : List (Int × Int)} {F : Int → Int → Value} {t e : TypeId} (ht : Tryz.prog.underlying t = some (.map 47 e)) (hz : (zeroValue e).run Tryz.prog w = .ok z w) {m k : Operand} {x y : Int} (hx : W64 x) (hy : W64 y) (ho : o.op = .lookup t m k false) (hm : ev m = .map (some b)) (hk : ev k = cel x y) (h : MapS z w b K F) :
    (execOp ev o).run Tryz.prog w = .ok (.value (F x y)) w := by
  have hr := h.look ht hz hx hy
  unfold execOp
  simp only [ho, hm, hk]
  simp only [Sem.run_bind, hr, Result.andThen]
  rfl
theorem run_slen {x : Operand} {a : Option Addr} {n c : Nat} (ho : o.op = .call { callee := .builtin .len, args := #[x], argTypes := #[68] }) (hx : ev x = .slice a n c) : (execOp ev o).run Tryz.prog w = .ok (.value (.int .i64 (n : Nat))) w := by
  unfold execOp
  simp only [ho]
  simp [resolve, invoke, builtin, hx]
  go_simp
theorem run_moveO {x : Operand} {v : Value} (ho : o.op = .move x) (hx : ev x = v) : (execOp ev o).run Tryz.prog w = .ok (.value v) w := by
  unfold execOp; rw [ho, ← hx]; rfl
theorem run_del {t : TypeId} {m k : Operand} {mv kv : Value} (ho : o.op = .call { callee := .builtin .delete, args := #[m, k], argTypes := #[t, 47] }) (hm : ev m = mv) (hk : ev k = kv) (h : (Builtin.delete_ #[t, 47] o.type #[mv, kv]).run Tryz.prog w = .ok (.tuple #[]) w2) : (execOp ev o).run Tryz.prog w = .ok (.value (.tuple #[])) w2 := by
  unfold execOp
  simp only [ho]
  simp [resolve, invoke, builtin, hm, hk, h, Result.andThen]
theorem run_upd {t : TypeId} {m k x : Operand} {mv kv xv : Value} (ho : o.op = .mapUpdate t m k x) (hm : ev m = mv) (hk : ev k = kv) (hx : ev x = xv) (h : (Instr.mapUpdate t mv kv xv).run Tryz.prog w = .ok () w2) : (execOp ev o).run Tryz.prog w = .ok .skip w2 := by
  unfold execOp
  simp only [ho, hm, hk, hx]
  simp only [Sem.run_bind, h, Result.andThen]
  rfl
theorem run_app {t : TypeId} {s x : Operand} {v xv v' : Value} (ho : o.op = .call { callee := .builtin .append, args := #[s, x], argTypes := #[t, t] }) (hs : ev s = v) (hx : ev x = xv) (h : (Builtin.append_ #[t, t] o.type #[v, xv]).run Tryz.prog w = .ok v' w2) : (execOp ev o).run Tryz.prog w = .ok (.value v') w2 := by
  unfold execOp
  simp only [ho]
  simp [resolve, invoke, builtin, hs, hx, h, Result.andThen]
end
section
variable {W H : Int} {tl : List Nat} {f : Int → Int → Option Int} {c s kx ky : Int}
theorem mem_insL {C : List Int} {ix iy iw : Int} {l : List (Int × Int)} {e : E3} : e ∈ insL C ix iy iw l ↔ e.to ∈ l ∧ C[ij ix iy iw e.x e.y]? = some e.c ∧ 0 < e.c := by
  unfold insL
  rw [List.mem_flatMap]
  constructor
  · rintro ⟨q, hq, he⟩
    unfold insF at he
    split at he
    · rename_i m hm
      split at he
      · rename_i h0
        simp at he
        subst he
        exact ⟨hq, hm, h0⟩
      · simp at he
    · simp at he
  · rintro ⟨h1, h2, h3⟩
    refine ⟨e.to, h1, ?_⟩
    unfold insF
    simp only [E3.to]
    rw [h2]
    simp only
    rw [if_pos h3]
    simp
theorem mem_acE {L : List Q4} {q : Int × Int} {e : E3} : e ∈ acE L q ↔ ∃ t ∈ L, t.A = q ∧ e = ⟨t.a, t.b, 10⟩ := by
  unfold acE
  rw [List.mem_map]
  constructor
  · rintro ⟨t, ht, rfl⟩
    rw [List.mem_filter] at ht
    exact ⟨t, ht.1, by simpa using ht.2, rfl⟩
  · rintro ⟨t, ht, h1, rfl⟩
    exact ⟨t, List.mem_filter.2 ⟨ht, by simpa using h1⟩, rfl⟩
theorem in_cl (hW : 1 ≤ W ∧ W ≤ 128) (hH : 1 ≤ H ∧ H ≤ 128) (hr : rB W H kx ky = true) {q : Int × Int} (h1 : q.1 / 8 = kx ∧ q.2 / 8 = ky) (h2 : (0 ≤ q.1 ∧ q.1 < W) ∧ 0 ≤ q.2 ∧ q.2 < H) : inB (kx * 8) (ky * 8) (rS W kx) (rS H ky) q := by
  obtain ⟨hx, hy⟩ := (rB_iff hW hH).1 hr
  unfold inB rS
  omega
theorem Nd.inB' (hW : 1 ≤ W ∧ W ≤ 128) (hH : 1 ≤ H ∧ H ≤ 128) (hS : ∀ u v, stB W H tl f c s u v = true → (0 ≤ u ∧ u < W) ∧ 0 ≤ v ∧ v < H) (hr : rB W H kx ky = true) {q : Int × Int} (h : Nd (stB W H tl f c s) W H kx ky q) : inB (kx * 8) (ky * 8) (rS W kx) (rS H ky) q := by
  obtain ⟨h1, h2⟩ := h.in hW hH hS
  exact in_cl hW hH hr h1 (hS _ _ h2)
/-- What comes of a node's edges. -/
theorem edges_of (hW : 1 ≤ W ∧ W ≤ 128) (hH : 1 ≤ H ∧ H ≤ 128) (hS : ∀ u v, stB W H tl f c s u v = true → (0 ≤ u ∧ u < W) ∧ 0 ≤ v ∧ v < H) (hr : rB W H kx ky = true) {NL : List (Int × Int)} (hN : IsN (stB W H tl f c s) W H kx ky NL) {q : Int × Int} {C : List Int} (hT : Tbl W H tl f c s (kx * 8) (ky * 8) (rS W kx) (rS H ky) q C)
    {M : List E3} (hp : M.Perm (acE (acL (stB W H tl f c s) W H kx ky) q ++ insL C (kx * 8) (ky * 8) (rS W kx) NL)) (hs : SrtE M) : IsE W H tl f c s kx ky q M := by
  have hin : ∀ e : E3, e ∈ insL C (kx * 8) (ky * 8) (rS W kx) NL ↔ (Nd (stB W H tl f c s) W H kx ky e.to ∧ e.to ≠ q ∧ ∃ n : Nat, e.c = (n : Int) ∧ Std W H tl f c s (kx * 8) (ky * 8) (rS W kx) (rS H ky) q ∧ Least (stepR W H tl f c s (kx * 8) (ky * 8) (rS W kx) (rS H ky)) q e.to n) := fun e => by
    rw [mem_insL, hN.2]
    constructor
    · rintro ⟨h1, h2, h3⟩
      rcases hT.2 e.to (h1.inB' hW hH hS hr) with ⟨n, k1, -, k2, k3⟩ | ⟨k1, -⟩
      · rw [show C[ij (kx * 8) (ky * 8) (rS W kx) e.to.1 e.to.2]? = C[ij (kx * 8) (ky * 8) (rS W kx) e.x e.y]? from rfl, h2] at k1
        have k1 := Option.some.inj k1
        refine ⟨h1, fun e1 => ?_, n, k1, k2, k3⟩
        rw [e1] at k3
        have := k3.2 0 (.nil _)
        omega
      · rw [show C[ij (kx * 8) (ky * 8) (rS W kx) e.to.1 e.to.2]? = C[ij (kx * 8) (ky * 8) (rS W kx) e.x e.y]? from rfl, h2] at k1
        have k1 := Option.some.inj k1
        omega
    · rintro ⟨h1, h2, n, h3, h4, h5⟩
      rcases hT.2 e.to (h1.inB' hW hH hS hr) with ⟨m, k1, -, k2, k3⟩ | ⟨-, k2⟩
      · have hmn : m = n := k3.eq h5
        subst hmn
        refine ⟨h1, by rw [h3]; exact k1, ?_⟩
        rw [h3]
        rcases Nat.eq_zero_or_pos m with e0 | e0
        · exact absurd (Wk.zero h5.1 e0) (fun q => h2 q.symm)
        · omega
      · exact absurd ⟨h4, h5.1⟩ (k2 n)
  have hmem : ∀ e, e ∈ M ↔ Ed W H tl f c s kx ky q e := fun e => by
    rw [hp.mem_iff, List.mem_append, mem_acE, hin]
    rfl
  refine ⟨upE_of hs ?_, hmem⟩
  refine (hp.map E3.to).nodup_iff.2 ?_
  rw [List.map_append, List.nodup_append]
  refine ⟨?_, ?_, ?_⟩
  · unfold acE
    rw [List.map_map, List.nodup_iff_pairwise_ne, List.pairwise_map]
    refine List.Pairwise.imp_of_mem ?_ ((acL_apart (kx := kx) (ky := ky) hW hH hS).filter _)
    intro t t' ht ht' h e
    rw [List.mem_filter] at ht ht'
    have h1 : t.A = q := by simpa using ht.2
    have h2 : t'.A = q := by simpa using ht'.2
    exact h (h1.trans h2.symm) e
  · unfold insL
    rw [List.nodup_iff_pairwise_ne, List.pairwise_map, List.pairwise_flatMap]
    have hone : ∀ r : Int × Int, (insF C (kx * 8) (ky * 8) (rS W kx) r).Pairwise (fun a b => a.to ≠ b.to) ∧ ∀ e ∈ insF C (kx * 8) (ky * 8) (rS W kx) r, e.to = r := fun r => by
      unfold insF
      split
      · split
        · exact ⟨by simp, fun e he => by simp at he; subst he; rfl⟩
        · exact ⟨List.Pairwise.nil, fun e he => by simp at he⟩
      · exact ⟨List.Pairwise.nil, fun e he => by simp at he⟩
    refine ⟨fun r _ => (hone r).1, ?_⟩
    refine List.Pairwise.imp ?_ hN.1.nodup
    intro a b hab x hx y hy e
    exact hab (((hone a).2 x hx).symm.trans (e.trans ((hone b).2 y hy)))
  · intro a ha b hb e
    obtain ⟨x, hx, rfl⟩ := List.mem_map.1 ha
    obtain ⟨y, hy, rfl⟩ := List.mem_map.1 hb
    obtain ⟨t, ht, -, rfl⟩ := mem_acE.1 hx
    have h1 := ((hin y).1 hy).1.in hW hH hS
    obtain ⟨d, hd, ht⟩ := mem_acL.1 ht
    obtain ⟨-, -, h2, -⟩ := prtL_mem hW hH hS hd ht
    rw [← e] at h1
    simp only [E3.to] at h1
    have : ∀ d : Fin 4, ¬ (dX d.val = 0 ∧ dY d.val = 0) := by decide
    exact this ⟨d, hd⟩ ⟨by simp only; omega, by simp only; omega⟩
end
end Go.Proofs.YthiafmlgialbnaaGreatDoor
set_option linter.unusedSimpArgs false
namespace Go.Proofs.YthiafmlgialbnaaGreatDoor
open Go.RowKit Go.Shelf
set_option linter.unusedVariables false
/-- The world beneath, and the tables. -/
def En (w : World) (p : Nat) (W H : Int) (tl : List Nat) (f : Int → Int → Option Int) : Prop := Wl w p W H tl f ∧ Grnd w ∧ Offs w
/-- S has maps alone, none of them the world's. -/
def MO (S : Nat → Prop) (w : World) (p : Nat) : Prop := ∀ k, k < w.heap.size → S k → (∃ es cl, w.heap[k]? = some (.map es cl)) ∧ w.cell? ⟨p, 6, none⟩ ≠ some (.map (some k))
section
variable {w w' : World} {p : Nat} {W H : Int} {tl : List Nat} {f : Int → Int → Option Int} {S : Nat → Prop}
theorem MO.cells (h : MO S w p) {k : Nat} {cs : Array Value} {t : Nat} {fz : Nat × Nat} (hk : w.heap[k]? = some (.cells cs t fz)) : ¬ S k := fun hs => by
  obtain ⟨⟨es, cl, e⟩, -⟩ := h k (Array.getElem?_eq_some_iff.1 hk).1 hs
  rw [hk] at e
  cases e
theorem row_blk {e k n : Nat} {v : Value} {xs : List Value} (h : w.ownsRow 0 e k v n xs) {g : Nat} (hg : v.ownBlock = some g) : ∃ cur, w.heap[g]? = some (.cells cur e (0, 0)) := by
  rcases h.2 with ⟨e, -⟩ | ⟨g', cap, cur, e, -, hc, -⟩
  · rw [e] at hg; cases hg
  · rw [e] at hg; cases hg; exact ⟨cur, hc⟩
theorem En.turned (h : En w p W H tl f) (T : Turns S w w') (hm : MO S w p) : En w' p W H tl f := by
  obtain ⟨⟨h0, bm, n, tv, bv, ev, h1, h2, h3⟩, hg, ho⟩ := h
  refine ⟨⟨h0, bm, n, tv, bv, ev, h1.kept T (hm.cells h1), h2.kept T (fun g e => ?_), h3.kept T (fun e => ?_)⟩, ⟨Nat.lt_of_lt_of_le hg.1 T.size, fun k hk => ?_⟩, ⟨Nat.lt_of_lt_of_le ho.1 T.size, fun k hk => ?_⟩⟩
  · obtain ⟨cur, hc⟩ := row_blk h2 e
    exact hm.cells hc
  · have := (hm bm h3.lt e).2
    rw [h1.c 6] at this
    exact this rfl
  · have hc := hg.2 k hk
    refine T.cell (fun e => ?_) hc
    obtain ⟨⟨es, cl, q⟩, -⟩ := hm 1 hg.1 e
    simp [World.cell?, q] at hc
  · obtain ⟨c1, c2⟩ := ho.2 k hk
    have hn : ¬ S 0 := fun e => by
      obtain ⟨⟨es, cl, q⟩, -⟩ := hm 0 ho.1 e
      simp [World.cell?, q] at c1
    exact ⟨T.cell hn c1, T.cell hn c2⟩
theorem En.upto (h : En w p W H tl f) (hb : Below w.heap.size w w') : En w' p W H tl f := ⟨h.1.kept hb, h.2.1.kept hb, h.2.2.kept hb⟩
theorem En.six (h : En w p W H tl f) : ∃ bm, w.cell? ⟨p, 6, none⟩ = some (.map (some bm)) ∧ bm < w.heap.size ∧ p < w.heap.size := by
  obtain ⟨⟨h0, bm, n, tv, bv, ev, h1, h2, h3⟩, hg, ho⟩ := h
  exact ⟨bm, by rw [h1.c 6]; rfl, h3.lt, h1.lt⟩
theorem En.pblk (h : En w p W H tl f) : ∃ cs, w.heap[p]? = some (.cells cs 101 (0, 0)) := by
  obtain ⟨⟨h0, bm, n, tv, bv, ev, h1, h2, h3⟩, hg, ho⟩ := h
  exact ⟨_, h1⟩
end
/-- A graph, whole. -/
structure GS (w : World) (gp p : Nat) (c s ep : Int) (wb eb : Nat) (KW : List (Int × Int)) (LW : Int × Int → List (Int × Int)) (KE : List (Int × Int)) (LE : Int × Int → List E3) : Prop where
  g : Gp w gp p c s ep wb eb
  ne : wb ≠ eb
  nw : w.cell? ⟨p, 6, none⟩ ≠ some (.map (some wb)) ∧ w.cell? ⟨p, 6, none⟩ ≠ some (.map (some eb))
  wm : ∃ FW, MapS nilS w wb KW FW ∧ ∀ x y, RC w (FW x y) (LW (x, y))
  em : ∃ FE, MapS nilS w eb KE FE ∧ ∀ x y, RE w (FE x y) (LE (x, y))
section
variable {w w' : World} {gp p : Nat} {c s ep : Int} {wb eb : Nat} {KW : List (Int × Int)} {LW : Int × Int → List (Int × Int)} {KE : List (Int × Int)} {LE : Int × Int → List E3}
theorem GS.wblk (h : GS w gp p c s ep wb eb KW LW KE LE) : ∃ es cl, w.heap[wb]? = some (.map es cl) := by obtain ⟨F, m, -⟩ := h.wm; exact m.blk
theorem GS.eblk (h : GS w gp p c s ep wb eb KW LW KE LE) : ∃ es cl, w.heap[eb]? = some (.map es cl) := by obtain ⟨F, m, -⟩ := h.em; exact m.blk
theorem GS.mo (h : GS w gp p c s ep wb eb KW LW KE LE) : MO (fun k => k = wb ∨ k = eb) w p := fun k _ hk => by
  rcases hk with rfl | rfl
  · exact ⟨h.wblk, h.nw.1⟩
  · exact ⟨h.eblk, h.nw.2⟩
theorem GS.upto (h : GS w gp p c s ep wb eb KW LW KE LE) (hb : Below w.heap.size w w') (hp : p < w.heap.size) : GS w' gp p c s ep wb eb KW LW KE LE := by
  have hc : w'.cell? ⟨p, 6, none⟩ = w.cell? ⟨p, 6, none⟩ := hb.cell (p := ⟨p, 6, none⟩) hp
  obtain ⟨FW, m1, m2⟩ := h.wm
  obtain ⟨FE, m3, m4⟩ := h.em
  exact ⟨h.g.upto hb, h.ne, by rw [hc]; exact h.nw, ⟨FW, m1.upto hb, fun x y => (m2 x y).upto hb⟩, FE, m3.upto hb, fun x y => (m4 x y).upto hb⟩
end
/-- The lists of a map, one of them anew. -/
def updL (LW : Int × Int → List (Int × Int)) (k : Int × Int) (NL : List (Int × Int)) : Int × Int → List (Int × Int) := fun q => if q = k then NL else LW q
theorem not_map {w : World} {b g t : Nat} {cur : Array Value} {fz : Nat × Nat} (hb : ∃ es cl, w.heap[b]? = some (.map es cl)) (hg : w.heap[g]? = some (.cells cur t fz)) : g ≠ b := by
  rintro rfl
  obtain ⟨es, cl, e⟩ := hb
  rw [hg] at e
  cases e
end Go.Proofs.YthiafmlgialbnaaGreatDoor
set_option linter.unusedSimpArgs false
namespace Go.Proofs.YthiafmlgialbnaaGreatDoor
open Go.RowKit Go.Shelf
set_option linter.unusedVariables false
theorem run_c59 {ev : Operand → Value} {o : Oper} {w : World} {ar : Array Operand} {ts : Array TypeId} {vs : Array Value} (hop : o.op = .call { callee := .value (.func 59), args := ar, argTypes := ts }) (hf : ev (.func 59) = .func (.func 59) #[] #[]) (hvs : ar.map ev = vs) : (execOp ev o).run Tryz.prog w = .ok (.enter 59 vs) w := by
  unfold execOp
  simp only [hop, resolve, hf, hvs]
  go_simp
/-- What lies in the graph's map of edges while nodes that were are struck. -/
structure Del (X wr : World) (eb : Nat) (KE : List (Int × Int)) (FE : Int → Int → Value) (OL : List (Int × Int)) (i : Nat) : Prop where
  T : Turns (fun k => k = eb) X wr
  m : ∃ K F, MapS nilS wr eb K F ∧ (∀ q, q ∈ K ↔ q ∈ KE ∧ q ∉ OL.take i) ∧ (∀ x y, F x y = if (x, y) ∈ OL.take i then nilS else FE x y) ∧ K.length ≤ KE.length
theorem Del.step {X wr Y : World} {eb : Nat} {KE : List (Int × Int)} {FE : Int → Int → Value} {OL : List (Int × Int)} {i : Nat} (h : Del X wr eb KE FE OL i) (hb : Below wr.heap.size wr Y) {q : Int × Int} (hq : OL[i]? = some q) (h1 : W64 q.1) (h2 : W64 q.2) (ty : TypeId) :
    ∃ Z, (Builtin.delete_ #[65, 47] ty #[.map (some eb), cel q.1 q.2]).run Tryz.prog Y = .ok (.tuple #[]) Z ∧ Del X Z eb KE FE OL (i + 1) := by
  obtain ⟨K, F, m1, m2, m3, m4⟩ := h.m
  obtain ⟨Z, r, mZ, gZ⟩ := (m1.upto hb).drop Tryz.underlying65 h1 h2 ty
  have TZ : Turns (fun k => k = eb) Y Z := Turns.of_grown gZ (fun k e => by cases e; rfl)
  have htk : ∀ r, r ∈ OL.take (i + 1) ↔ r ∈ OL.take i ∨ r = q := fun r => by rw [List.take_add_one, hq]; simp
  refine ⟨Z, r, h.T.trans (((Turns.of_below hb).trans (TZ.mono (fun k _ e => .inl e))).mono (fun k _ e => .inl e)), _, _, mZ, fun r => ?_, fun x y => ?_, ?_⟩
  · rw [m1.nodup.mem_erase_iff, m2, htk]
    constructor
    · rintro ⟨a, b, c⟩; exact ⟨b, fun e => e.elim c a⟩
    · rintro ⟨b, c⟩; exact ⟨fun e => c (.inr e), b, fun e => c (.inl e)⟩
  · unfold fput
    rw [m3]
    by_cases e : x = q.1 ∧ y = q.2
    · rw [if_pos e, if_pos ((htk _).2 (.inr (by rw [e.1, e.2])))]
    · rw [if_neg e]
      by_cases e2 : (x, y) ∈ OL.take i
      · rw [if_pos e2, if_pos ((htk _).2 (.inl e2))]
      · rw [if_neg e2, if_neg (fun k => ((htk _).1 k).elim e2 (fun k => e ⟨by rw [← k], by rw [← k]⟩))]
  · have := List.length_erase_le (a := (q.1, q.2)) (l := K)
    omega
/-- What the rounds over the nodes keep. w0: where reckon began; w3: where this loop began. -/
structure Rk (w0 w3 wr : World) (eb : Nat) (FA : Int → Int → Value) (AE : Int × Int → List E3) (NL : List (Int × Int)) (KE1 : List (Int × Int)) (LE1 : Int × Int → List E3) (Ok : Int × Int → List E3 → Prop) (i : Nat) : Prop where
  T : Turns (fun k => k = eb ∨ ∃ x y, (FA x y).ownBlock = some k) w3 wr
  m : ∃ (K : List (Int × Int)) (F : Int → Int → Value) (LE : Int × Int → List E3), MapS nilS wr eb K F ∧ (∀ q, q ∈ K ↔ q ∈ KE1 ∨ q ∈ NL.take i) ∧ K.length ≤ KE1.length + i ∧ (∀ x y, RE wr (F x y) (LE (x, y))) ∧ (∀ x y g, (F x y).ownBlock = some g → g < w0.heap.size ∨ (FA x y).ownBlock = some g ∨ w3.heap.size ≤ g) ∧
    (∀ q ∈ NL.take i, Ok q (LE q)) ∧ ∀ q, q ∉ NL.take i → LE q = LE1 q
  ra : ∀ j q, i ≤ j → NL[j]? = some q → RE wr (FA q.1 q.2) (AE q)
/-- One node more. -/
theorem Rk.step {w0 w3 wr w6 : World} {eb : Nat} {FA : Int → Int → Value} {AE : Int × Int → List E3} {NL : List (Int × Int)} {KE1 : List (Int × Int)} {LE1 : Int × Int → List E3} {Ok : Int × Int → List E3 → Prop} {i : Nat} (h : Rk w0 w3 wr eb FA AE NL KE1 LE1 Ok i)
    (hnd : NL.Nodup) {q : Int × Int} (hq : NL[i]? = some q) (hap : ∀ x y u v g, (FA x y).ownBlock = some g → (FA u v).ownBlock = some g → x = u ∧ y = v) (hao : ∀ x y g, (FA x y).ownBlock = some g → w0.heap.size ≤ g ∧ g < w3.heap.size)
    (T6 : Turns (fun k => (FA q.1 q.2).ownBlock = some k) wr w6) {v : Value} {M : List E3} (hv : RE w6 v M) (hvo : ∀ g, v.ownBlock = some g → (FA q.1 q.2).ownBlock = some g ∨ wr.heap.size ≤ g) (hok : Ok q M) (hneq : ∀ x y, (FA x y).ownBlock ≠ some eb) (hebl : eb < w3.heap.size) (h1 : W64 q.1) (h2 : W64 q.2) (hlen : KE1.length + i < 100000000) :
    ∃ w8, (Instr.mapUpdate 65 (.map (some eb)) (cel q.1 q.2) v).run Tryz.prog w6 = .ok () w8 ∧ Rk w0 w3 w8 eb FA AE NL KE1 LE1 Ok (i + 1) := by
  obtain ⟨K, F, LE, m1, m2, m3, m4, m5, m6, m7⟩ := h.m
  have hs3 := h.T.size
  have m16 : MapS nilS w6 eb K F := m1.kept T6 (hneq _ _)
  obtain ⟨w8, r, m8, g8⟩ := m16.put Tryz.underlying65 h1 h2 (isS_row hv) (by unfold maxLen; omega)
  have T8 : Turns (fun k => k = eb) w6 w8 := Turns.of_grown g8 (fun k e => by cases e; rfl)
  have TA : Turns (fun k => k = eb ∨ (FA q.1 q.2).ownBlock = some k) wr w8 := (T6.mono (fun k _ e => .inr e)).trans (T8.mono (fun k _ e => .inl (.inl e)))
  have hve : ∀ g, v.ownBlock = some g → g ≠ eb := fun g e => by
    obtain ⟨cur, hc⟩ := hv.blk e
    exact not_map m16.blk hc
  have hFe : ∀ x y g, (F x y).ownBlock = some g → g ≠ eb := fun x y g e => by
    obtain ⟨cur, hc⟩ := (m4 x y).blk e
    exact not_map m1.blk hc
  have htk : ∀ r, r ∈ NL.take (i + 1) ↔ r ∈ NL.take i ∨ r = q := fun r => by rw [List.take_add_one, hq]; simp
  refine ⟨w8, r, h.T.trans (TA.mono (fun k _ e => .inl (e.imp id (fun e => ⟨_, _, e⟩)))), ⟨_, _, fun r => if r = q then M else LE r, m8, fun r => ?_, ?_, fun x y => ?_, fun x y g e => ?_, fun r hr => ?_, fun r hr => ?_⟩, fun j r hj hr => ?_⟩
  · rw [mem_kput, m2, htk, or_assoc]
  · unfold kput
    split
    · omega
    · rw [List.length_append, List.length_singleton]; omega
  · show RE w8 (fput F q.1 q.2 v x y) (if (x, y) = q then M else LE (x, y))
    unfold fput
    by_cases e : x = q.1 ∧ y = q.2
    · rw [if_pos e, if_pos (show (x, y) = q by rw [e.1, e.2])]
      exact hv.kept T8 (fun g e => hve g e)
    · rw [if_neg e, if_neg (fun k => e ⟨by rw [← k], by rw [← k]⟩)]
      refine (m4 x y).kept TA (fun g e1 e2 => ?_)
      rcases e2 with e2 | e2
      · exact hFe x y g e1 e2
      · have h9 := hao _ _ _ e2
        rcases m5 x y g e1 with q1 | q1 | q1
        · omega
        · exact e (hap _ _ _ _ _ q1 e2)
        · omega
  · unfold fput at e
    by_cases e1 : x = q.1 ∧ y = q.2
    · rw [if_pos e1] at e
      rcases hvo g e with q1 | q1
      · exact .inr (.inl (by rw [e1.1, e1.2]; exact q1))
      · exact .inr (.inr (by omega))
    · rw [if_neg e1] at e
      exact m5 x y g e
  · simp only
    by_cases e : r = q
    · rw [if_pos e, e]; exact hok
    · rw [if_neg e]; exact m6 r (((htk r).1 hr).resolve_right e)
  · simp only
    have hr' : r ∉ NL.take i ∧ r ≠ q := ⟨fun e => hr ((htk r).2 (.inl e)), fun e => hr ((htk r).2 (.inr e))⟩
    rw [if_neg hr'.2]
    exact m7 r hr'.1
  · have hne : r ≠ q := fun e => by
      subst e
      have hi := (List.getElem?_eq_some_iff.1 hq)
      have hj' := (List.getElem?_eq_some_iff.1 hr)
      exact List.pairwise_iff_getElem.1 hnd i j hi.1 hj'.1 (by omega) (hi.2.trans hj'.2.symm)
    refine (h.ra j r (by omega) hr).kept TA (fun g e1 e2 => ?_)
    rcases e2 with e2 | e2
    · subst e2; exact hneq _ _ e1
    · obtain ⟨e3, e4⟩ := hap _ _ _ _ _ e1 e2
      exact hne (Prod.ext e3 e4)
end Go.Proofs.YthiafmlgialbnaaGreatDoor
