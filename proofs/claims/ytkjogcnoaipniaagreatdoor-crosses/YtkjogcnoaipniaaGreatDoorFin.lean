/-
  All portals of a World, by the package. What phalanxlaw12.awake tells: true. Lists of portals that read the same are told alike. Steps on the document's ground, in the package's word.
-/
import Derived.Test.YtkjogcnoaipniaaGreatDoorDRun
import Derived.Test.YtkjogcnoaipniaaGreatDoorSrt
import Derived.Test.YtkjogcnoaipniaaGreatDoorAlls
namespace Go.Proofs.YtkjogcnoaipniaaGreatDoor
open Go.RowKit Go.Shelf
set_option linter.unusedVariables false
set_option linter.unusedSimpArgs false
attribute [local go_sem] Oper.semAt_some
theorem add_none (a : Option Addr) (n c : Nat) (w : World) (h : n ≤ c) : (Builtin.append_ #[44, 44] 44 #[.slice a n c, .slice none 0 0]).run Tryz.prog w = .ok (.slice a n c) w := by
  unfold Builtin.append_
  go_simp
  cases a <;> rfl
/-- Another row behind. -/
theorem Rw.add {w : World} {v bv : Value} {L M : List Q4} (h : Rq 64 w v L) (hM : Rq 64 w bv M) (hlen : L.length + M.length ≤ 1000000000) :
    ∃ v' w', (Builtin.append_ #[44, 44] 44 #[v, bv]).run Tryz.prog w = .ok v' w' ∧ Rq 64 w' v' (L ++ M) ∧ (∀ k, v'.ownBlock = some k → v.ownBlock = some k ∨ w.heap.size ≤ k) ∧ Turns (fun k => v.ownBlock = some k) w w' := by
  rcases hM.2 with ⟨e, h0⟩ | ⟨g, cap, cur, e, hb, hg, r⟩
  · have h1 : M = [] := List.eq_nil_of_length_eq_zero h0
    subst h1
    obtain ⟨a, c, hv, hcap, -⟩ := Rw.form Q4.cs_len h
    subst hv
    rw [e]
    exact ⟨_, _, add_none _ _ _ _ hcap, by rw [List.append_nil]; exact h, fun k q => .inl q, Turns.of_below (Below.refl _ _)⟩
  · rw [e]
    exact h.more Tryz.underlying44 info64q (fun j u hu => hM.cells (g := g) (by rw [e]; rfl) j u hu) hlen
theorem run_append {P : Program} {ev : Operand → Value} {o : Oper} {w w' : World} {s x : Operand} {t : TypeId} {v xv v' : Value} (ho : o.op = .call { callee := .builtin .append, args := #[s, x], argTypes := #[t, t] })
    (hs : ev s = v) (hx : ev x = xv) (hr : (Builtin.append_ #[t, t] o.type #[v, xv]).run P w = .ok v' w') : (execOp ev o).run P w = .ok (.value v') w' := by
  unfold execOp
  simp only [ho, resolve, invoke, builtin, Sem.run_bind, Sem.run_pure, Result.andThen_ok, List.map_toArray, List.map_cons, List.map_nil, hs, hx, hr]
theorem run_call12 {ev : Operand → Value} {o : Oper} {w : World} {ar : Array Operand} {ts : Array TypeId} {vs : Array Value} (hop : o.op = .call { callee := .value (.func 12), args := ar, argTypes := ts }) (hf : ev (.func 12) = .func (.func 12) #[] #[]) (hvs : ar.map ev = vs) : (execOp ev o).run Tryz.prog w = .ok (.enter 12 vs) w := by
  unfold execOp
  simp only [hop, resolve, hf, hvs]
  go_simp
structure As (w Z : World) (p : Nat) (c s : Int) (lv : Value) (L : List Q4) (M : Nat) : Prop where
  bl : Below w.heap.size w Z
  b0 : Boxed Z w.heap.size 29 (ptr p)
  b1 : Two Z (w.heap.size + 1) c s
  b2 : Boxed Z (w.heap.size + 2) 44 lv
  row : Rq 64 Z lv L
  own : ∀ g, lv.ownBlock = some g → M ≤ g
  size : M ≤ Z.heap.size
  hM : w.heap.size + 3 ≤ M
section
variable {w Z Z' : World} {p : Nat} {c s : Int} {lv : Value} {L : List Q4} {M : Nat}
theorem As.turned (h : As w Z p c s lv L M) {S : Nat → Prop} (T : Turns S Z Z') (hS : ∀ j, S j → M ≤ j) (hv : ∀ g, lv.ownBlock = some g → ¬ S g) : As w Z' p c s lv L M := by
  have hM := h.hM
  have hz := h.bl.size
  have key : ∀ j, j < M → ¬ S j := fun j hj e => by have := hS j e; omega
  exact ⟨h.bl.trans (T.below (fun j e => by have := hS j e; omega) hz), boxed_kept h.b0 T (key _ (by omega)), two_kept h.b1 T (key _ (by omega)), boxed_kept h.b2 T (key _ (by omega)), h.row.kept T hv, h.own, Nat.le_trans h.size T.size, h.hM⟩
theorem As.upto (h : As w Z p c s lv L M) (hb : Below Z.heap.size Z Z') : As w Z' p c s lv L M := h.turned (S := NoB) (Turns.of_below hb) (fun _ e => e.elim) (fun _ _ => id)
theorem As.own_from (h : As w Z p c s lv L M) {row : Option Nat} (hg : Z.grownBy Z' row) (hr : ∀ r, row = some r → M ≤ r ∧ ∃ o : Obj, Z.heap[r]? = some o ∧ o.isCells = false) : As w Z' p c s lv L M :=
  h.turned (S := fun j => row = some j) (Turns.of_grown hg (fun j e => e)) (fun j e => (hr j e).1) (fun g hg' e => by
    obtain ⟨cur, hc⟩ := h.row.blk hg'
    obtain ⟨o, ho, hi⟩ := (hr g e).2
    rw [hc] at ho; cases ho; cases hi)
/-- The list written anew, its row turned. -/
theorem As.setL (h : As w Z p c s lv L M) {lv' : Value} {L' : List Q4} (T : Turns (fun j => lv.ownBlock = some j) Z Z') (hr : Rq 64 Z' lv' L') (ho : ∀ g, lv'.ownBlock = some g → M ≤ g) :
    As w (Z'.setCell ⟨w.heap.size + 2, 0, none⟩ lv') p c s lv' L' M ∧ Turns (fun j => j = w.heap.size + 2 ∨ lv.ownBlock = some j) Z (Z'.setCell ⟨w.heap.size + 2, 0, none⟩ lv') := by
  have hM := h.hM
  have hz := h.bl.size
  have key : ∀ j, j < M → ¬ lv.ownBlock = some j := fun j hj e => by have := h.own j e; omega
  have T2 : Turns (fun j => j = w.heap.size + 2) Z' (Z'.setCell ⟨w.heap.size + 2, 0, none⟩ lv') := Turns.set (S := fun j => j = w.heap.size + 2) Z' (p := ⟨w.heap.size + 2, 0, none⟩) rfl _
  have TT : Turns (fun j => j = w.heap.size + 2 ∨ lv.ownBlock = some j) Z (Z'.setCell ⟨w.heap.size + 2, 0, none⟩ lv') := (T.mono (fun j _ e => .inr e)).trans (T2.mono (fun j _ e => .inl (.inl e)))
  have b2 := (boxed_kept h.b2 T (key _ (by omega)))
  exact ⟨⟨h.bl.trans (TT.below (fun j e => by rcases e with e | e; omega; have := h.own j e; omega) hz), boxed_kept (boxed_kept h.b0 T (key _ (by omega))) T2 (by omega), two_kept (two_kept h.b1 T (key _ (by omega))) T2 (by omega), b2.set _, hr.kept T2 (fun g e q => by have := ho g e; omega), ho, Nat.le_trans h.size TT.size, h.hM⟩, TT⟩
theorem As.keep (h : As w Z p c s lv L M) (T : Turns (fun j => j = w.heap.size + 2 ∨ lv.ownBlock = some j) Z Z') : KeepI M Z Z' :=
  ⟨T.size, fun j o hj ho hi => T.same (fun e => by
    have hM := h.hM
    rcases e with e | e
    · omega
    · obtain ⟨cur, hc⟩ := h.row.blk e
      rw [hc] at ho; cases ho; simp [ints] at hi) ho⟩
end
/-- A cell in a block of its own. -/
def TwB (w : World) (B : Nat) (x y : Int) : Prop := w.heap[B]? = some (.cells #[.int .i64 x, .int .i64 y] 35 (0, 0))
theorem TwB.c {w : World} {B : Nat} {x y : Int} (h : TwB w B x y) : w.cell? ⟨B, 0, none⟩ = some (.int .i64 x) ∧ w.cell? ⟨B, 1, none⟩ = some (.int .i64 y) := ⟨cell_of_row w B 0 _ _ _ h, cell_of_row w B 1 _ _ _ h⟩
theorem TwB.upto {w w' : World} {B : Nat} {x y : Int} (h : TwB w B x y) (hb : Below w.heap.size w w') : TwB w' B x y := (hb.block B (Array.getElem?_eq_some_iff.1 h).1).trans h
/-- The portals of both borders of a cluster. -/
def both2 (S : Int → Int → Bool) (W H : Int) (q : Int × Int) : List Q4 := ptQ S W H q.1 q.2 0 ++ ptQ S W H q.1 q.2 1
theorem both2_len (S : Int → Int → Bool) (W H : Int) (l : List (Int × Int)) : (l.flatMap (both2 S W H)).length ≤ l.length * 16 := by
  induction l with
  | nil => simp
  | cons q r ih =>
    have h1 := ptQ_len S W H q.1 q.2 0
    have h2 := ptQ_len S W H q.1 q.2 1
    rw [List.flatMap_cons, List.length_append, List.length_cons, both2, List.length_append]
    omega
set_option maxRecDepth 100000 in
set_option maxHeartbeats 8000000 in
theorem pall_is {w : World} {p : Nat} {W H : Int} {tl : List Nat} {f : Int → Int → Option Int} (c s : Int) (hw : Wl w p W H tl f) (hg : Grnd w) (ho : Offs w) (hS : ∀ u v, stB W H tl f c s u v = true → (0 ≤ u ∧ u < W) ∧ 0 ≤ v ∧ v < H) :
    Calls Tryz.prog 14 #[ptr p, shv c s] w fun e w' => ∃ lv L, e = .returned lv ∧ L.Perm (((allK W H).map (·.1)).flatMap (both2 (stB W H tl f c s) W H)) ∧ SrtP L ∧ Rq 64 w' lv L ∧ Below w.heap.size w w' ∧ ∀ g, lv.ownBlock = some g → w.heap.size ≤ g := by
  refine (callsIn_wide (n := 10)).1 ?_
  refine callsIn_of_wp_marks Tryz.func14 rfl trivial ?_ rfl
  simp only [Tryz.ntmps14, List.size_toArray, List.length_cons, List.length_nil, Nat.reduceAdd, Nat.reduceSub, Array.replicate_succ, Array.replicate_zero, List.push_toArray, List.append_toArray, List.nil_append, List.cons_append]
  obtain ⟨V, hV⟩ : ∃ V, ((w.alloc (.cells #[ptr p] 29)).alloc (.cells #[.int .i64 c, .int .i64 s] 27)).alloc (.cells #[.slice none 0 0] 44) = V := ⟨_, rfl⟩
  have B0 : Below w.heap.size w V := hV ▸ bt (box2 _ _ _) (box1 _ _)
  have k0 : Boxed V w.heap.size 29 (ptr p) := by rw [← hV]; exact ((Boxed.new w 29 _).alloc _).alloc _
  have k1 : Two V (w.heap.size + 1) c s := by rw [← hV]; exact (Two.newAt (by simp)).alloc
  have k2 : Boxed V (w.heap.size + 2) 44 (.slice none 0 0) := by
    rw [← hV]
    have := Boxed.new ((w.alloc (.cells #[ptr p] 29)).alloc (.cells #[.int .i64 c, .int .i64 s] 27)) 44 (.slice none 0 0)
    simpa using this
  have zV : V.heap.size = w.heap.size + 3 := by rw [← hV]; simp
  have HV := hide hV
  have HR0 : Hid (As w V p c s (.slice none 0 0) [] (w.heap.size + 3)) := hide ⟨B0, k0, k1, k2, Rw.nil _ _ _ _, (fun g e => by cases e), by omega, Nat.le_refl _⟩
  have HBe : Hid (∀ wx, Below w.heap.size w wx → ∀ kx ky d, Calls Tryz.prog 12 #[ptr p, shv c s, cel kx ky, .int .i64 d] wx fun e w' => ∃ lv, e = .returned lv ∧ Rq 64 w' lv (ptQ (stB W H tl f c s) W H kx ky d) ∧ Below wx.heap.size wx w' ∧ ∀ g, lv.ownBlock = some g → wx.heap.size ≤ g) := hide fun wx q kx ky d => pbet_is c s kx ky d (hw.kept q) (hg.kept q) (ho.kept q) hS
  have c0 := k0.cell
  have zV' := hide zV
  have Hw := hide hw
  have Hlk : Hid ((allK W H).length ≤ 256) := hide (by
    obtain ⟨hW, hH⟩ := hw.sides
    unfold allK allC
    split
    · rw [upto_length]
      have := Nat.mul_le_mul (show (clN H).toNat ≤ 16 by unfold clN; omega) (show (clN W).toNat ≤ 16 by unfold clN; omega)
      omega
    · simp)
  clear hV k0 k1 k2 zV hw hg ho hS
  gi_wp2_with fail
  rw [HV.out]
  simp only [Nat.add_assoc, Nat.reduceAdd]
  refine ⟨trivial, ?_⟩
  refine (callsIn_wide.2 (call_any p V)).mono ?_
  rintro e X0 ⟨rfl, hX0⟩
  have BX : Below V.heap.size V X0 := by rw [hX0]; exact box1 _ _
  have PX : Boxed X0 V.heap.size 29 (ptr p) := by rw [hX0]; exact Boxed.new V 29 _
  have zX : X0.heap.size = V.heap.size + 1 := by rw [hX0]; simp
  have hR1 : As w X0 p c s (.slice none 0 0) [] X0.heap.size := by
    have h := HR0.out.upto BX
    exact ⟨h.bl, h.b0, h.b1, h.b2, h.row, (fun g e => by cases e), Nat.le_refl _, by have := zV'.out; omega⟩
  have HwX := hide (Hw.out.kept (bt B0 BX))
  clear hX0 HR0 HV c0 BX
  gi_wp2_with fail
  refine range_nestI (n := 10) (by omega) (gf := 58) (lb := #[ptr V.heap.size]) rfl (enters_of Tryz.func58 (by kernel_rfl) rfl)
    (call_seqI (10 - 1) p V.heap.size W H tl f X0 (by omega) PX HwX.out) (fun _ _ => trivial) (fun _ _ _ _ _ _ _ _ => trivial) (Below.refl _ _) (fun _ => rfl)
    (fun pre Z => ∃ lv, As w Z p c s lv ((pre.map (·.1)).flatMap (both2 (stB W H tl f c s) W H)) X0.heap.size)
    (fun pre X => False)
    (fun pre Y' Z row hs hg hr => by obtain ⟨lv, h⟩ := hs; exact ⟨lv, h.own_from hg hr⟩)
    (fun _ _ _ _ h _ _ => h)
    ⟨_, hR1⟩
    (fun q a' Z => ∃ Bx, X0.heap.size ≤ Bx ∧ TwB Z Bx q.1.1 q.1.2 ∧ a' = { tmps := #[ptr p, shv c s, ptr w.heap.size, ptr (w.heap.size + 1), .slice none 0 0, ptr (w.heap.size + 2), ptr Bx, ptr p, .func (.func 58) #[] #[ptr V.heap.size], cel q.1.1 q.1.2, undef, undef, undef, undef, undef, undef, undef, undef, undef, undef, undef, undef, undef, undef, undef], defers := [] })
    (fun q a' _ X Y row hs hg hr => by obtain ⟨Bx, e1, e2, e3⟩ := hs; exact ⟨Bx, e1, (hg.block _ (Array.getElem?_eq_some_iff.1 e2).1 (fun e => by obtain ⟨o, ho, hi⟩ := (hr _ e.symm).2; rw [show X.heap[Bx]? = _ from e2] at ho; cases ho; cases hi)).trans e2, e3⟩)
    ?assign ?body ?done ?stop
  case assign =>
    rintro lo pre q Z K ⟨lv, hR⟩ hK
    have hz := hR.size
    gi_wp2
    exact hK _ _ (KeepI.of_below (box1 _ _)) trivial ⟨lv, hR.upto (box1 _ _)⟩ ⟨Z.heap.size, by omega, heap_alloc_new Z _, rfl⟩
  case body =>
    rintro lo pre q a' Z1 hlo ⟨lv, hR⟩ ⟨Bx, hBx, bX, rfl⟩ hlt
    obtain ⟨⟨qx, qy⟩, hqw⟩ := q
    simp only at bX ⊢
    have hfl : ((pre ++ [(⟨(qx, qy), hqw⟩ : Cel)]).map (·.1)).flatMap (both2 (stB W H tl f c s) W H) = ((pre.map (·.1)).flatMap (both2 (stB W H tl f c s) W H) ++ ptQ (stB W H tl f c s) W H qx qy 0) ++ ptQ (stB W H tl f c s) W H qx qy 1 := by
      rw [List.map_append, List.map_cons, List.map_nil, List.flatMap_append, List.append_assoc]
      simp [both2]
    have hle : ((pre.map (·.1)).flatMap (both2 (stB W H tl f c s) W H)).length ≤ 4096 := by
      have := both2_len (stB W H tl f c s) W H (pre.map (·.1))
      rw [List.length_map] at this
      omega
    obtain ⟨L0, hL0⟩ : ∃ L0, (pre.map (·.1)).flatMap (both2 (stB W H tl f c s) W H) = L0 := ⟨_, rfl⟩
    rw [hL0] at hR hfl hle
    obtain ⟨a1, c1, hlv⟩ := hR.row.slice4
    obtain ⟨n1, hn1⟩ : ∃ n, L0.length = n := ⟨_, rfl⟩
    rw [hn1] at hlv
    subst hlv
    have HR1 := hide hR
    have HX1 := hide bX
    have Hlt := hide hle
    have Hfl := hide hfl
    clear hR bX hle hfl hlt hn1 hL0 hR1 zX PX
    have HS : (fun wx : World => wx.cell? ⟨w.heap.size + 2, 0, none⟩ = some (.slice a1 n1 c1) ∧ wx.cell? ⟨w.heap.size, 0, none⟩ = some (ptr p) ∧ wx.cell? ⟨w.heap.size + 1, 0, none⟩ = some (.int .i64 c) ∧ wx.cell? ⟨w.heap.size + 1, 1, none⟩ = some (.int .i64 s) ∧ wx.cell? ⟨Bx, 0, none⟩ = some (.int .i64 qx) ∧ wx.cell? ⟨Bx, 1, none⟩ = some (.int .i64 qy)) Z1.drew := ⟨HR1.out.b2.cell, HR1.out.b0.cell, HR1.out.b1.1.1, HR1.out.b1.1.2, HX1.out.c.1, HX1.out.c.2⟩
    gi_wp2_with fail
    refine wpIn_only ?_
    refine wpIn_region_zR (fun wx : World => wx.cell? ⟨w.heap.size + 2, 0, none⟩ = some (.slice a1 n1 c1) ∧ wx.cell? ⟨w.heap.size, 0, none⟩ = some (ptr p) ∧ wx.cell? ⟨w.heap.size + 1, 0, none⟩ = some (.int .i64 c) ∧ wx.cell? ⟨w.heap.size + 1, 1, none⟩ = some (.int .i64 s) ∧ wx.cell? ⟨Bx, 0, none⟩ = some (.int .i64 qx) ∧ wx.cell? ⟨Bx, 1, none⟩ = some (.int .i64 qy)) [6] only_in (by kernel_rfl) (by kernel_rfl) ?_
    refine anyZ_take 0 20 (v := .slice a1 n1 c1) rfl (by kernel_rfl) (fun _ _ _ h => h.elim) (Or.inl ⟨by rfl, fun wx hx => by obtain ⟨p0, p1, p2, p3, p4, p5⟩ := hx; clear HS; go_simp⟩) HS ?_
    try simp only [Act.put, List.getElem_toArray, List.getElem_cons_zero, List.getElem_cons_succ, List.setIfInBounds_toArray, List.set_cons_zero, List.set_cons_succ]
    refine anyZ_take 1 20 (v := ptr p) rfl (by kernel_rfl) (fun _ _ _ h => h.elim) (Or.inl ⟨by rfl, fun wx hx => by obtain ⟨p0, p1, p2, p3, p4, p5⟩ := hx; clear HS; go_simp⟩) HS ?_
    try simp only [Act.put, List.getElem_toArray, List.getElem_cons_zero, List.getElem_cons_succ, List.setIfInBounds_toArray, List.set_cons_zero, List.set_cons_succ]
    refine anyZ_take 2 20 (v := shv c s) rfl (by kernel_rfl) (fun _ _ _ h => h.elim) (Or.inl ⟨by rfl, fun wx hx => by obtain ⟨p0, p1, p2, p3, p4, p5⟩ := hx; clear HS; go_simp⟩) HS ?_
    try simp only [Act.put, List.getElem_toArray, List.getElem_cons_zero, List.getElem_cons_succ, List.setIfInBounds_toArray, List.set_cons_zero, List.set_cons_succ]
    refine anyZ_take 3 20 (v := cel qx qy) rfl (by kernel_rfl) (fun _ _ _ h => h.elim) (Or.inl ⟨by rfl, fun wx hx => by obtain ⟨p0, p1, p2, p3, p4, p5⟩ := hx; clear HS; go_simp⟩) HS ?_
    try simp only [Act.put, List.getElem_toArray, List.getElem_cons_zero, List.getElem_cons_succ, List.setIfInBounds_toArray, List.set_cons_zero, List.set_cons_succ]
    refine anyZ_ready (rs := [4]) (by kernel_rfl) (by simp) ?_
    refine readyZ.call rfl rfl (run_call12 (by rfl) (by rfl) (by simp only [List.map_toArray, List.map_cons, List.map_nil]; rfl)) (HBe.out Z1.drew (Below.drew HR1.out.bl) qx qy 0) ?_ readyZ.nil
    rintro e Y1 ⟨bv1, rfl, hbrow, hbb', -⟩
    have hbb : Below Z1.heap.size Z1 Y1 := Below.trans (Below.drew (Below.refl Z1.heap.size Z1)) hbb'
    have RY := HR1.out.upto hbb
    have XY := HX1.out.upto hbb
    obtain ⟨v2, Q1, rA, rR, rO, rT⟩ := RY.row.add hbrow (by have := ptQ_len (stB W H tl f c s) W H qx qy 0; have := Hlt.out; omega)
    obtain ⟨a2, c2, hv2⟩ := rR.slice4
    obtain ⟨n2, hn2⟩ : ∃ n, (L0 ++ ptQ (stB W H tl f c s) W H qx qy 0).length = n := ⟨_, rfl⟩
    rw [hn2] at hv2
    subst hv2
    have hown2 : ∀ g, (Value.slice a2 n2 c2).ownBlock = some g → X0.heap.size ≤ g := fun g e => by
      rcases rO g e with q | q
      · exact RY.own g q
      · have := RY.size; omega
    obtain ⟨RZ, TZ⟩ := RY.setL rT rR hown2
    have key : ∀ j, j < X0.heap.size → ¬ (Value.slice a1 n1 c1).ownBlock = some j := fun j hj e => by have := RY.own j e; omega
    have hM := RY.hM
    have XQ : TwB Q1 Bx qx qy := rT.same (fun e => RY.row.ne e XY (by decide) rfl) XY
    have q2 := boxed_kept RY.b2 rT (key _ (by omega))
    have q0 := boxed_kept RY.b0 rT (key _ (by omega))
    have q1 := two_kept RY.b1 rT (key _ (by omega))
    obtain ⟨Z2, hZ2⟩ : ∃ Z, Q1.setCell ⟨w.heap.size + 2, 0, none⟩ (.slice a2 n2 c2) = Z := ⟨_, rfl⟩
    rw [hZ2] at RZ TZ
    have HX2 : Hid (TwB Z2 Bx qx qy) := hide (by rw [← hZ2]; exact (Below.heap_setCell _ _ _ _ (by simp; omega)).trans XQ)
    have HKp1 : Hid (KeepI X0.heap.size Z1 Z2) := hide ((KeepI.of_below hbb).trans (RY.keep TZ))
    have HSY : (fun wx : World => wx.cell? ⟨w.heap.size + 2, 0, none⟩ = some (.slice a1 n1 c1) ∧ wx.cell? ⟨w.heap.size, 0, none⟩ = some (ptr p) ∧ wx.cell? ⟨w.heap.size + 1, 0, none⟩ = some (.int .i64 c) ∧ wx.cell? ⟨w.heap.size + 1, 1, none⟩ = some (.int .i64 s) ∧ wx.cell? ⟨Bx, 0, none⟩ = some (.int .i64 qx) ∧ wx.cell? ⟨Bx, 1, none⟩ = some (.int .i64 qy)) Y1 := ⟨RY.b2.cell, RY.b0.cell, RY.b1.1.1, RY.b1.1.2, XY.c.1, XY.c.2⟩
    have HSQ : (fun wx : World => wx.cell? ⟨w.heap.size + 2, 0, none⟩ = some (.slice a1 n1 c1) ∧ wx.cell? ⟨w.heap.size, 0, none⟩ = some (ptr p) ∧ wx.cell? ⟨w.heap.size + 1, 0, none⟩ = some (.int .i64 c) ∧ wx.cell? ⟨w.heap.size + 1, 1, none⟩ = some (.int .i64 s) ∧ wx.cell? ⟨Bx, 0, none⟩ = some (.int .i64 qx) ∧ wx.cell? ⟨Bx, 1, none⟩ = some (.int .i64 qy)) Q1 := ⟨q2.cell, q0.cell, q1.1.1, q1.1.2, XQ.c.1, XQ.c.2⟩
    have f2 := q2.frozen
    have g2 := q2.cell
    have HA := hide rA
    have HZ2 := hide hZ2
    have HR2 := hide RZ
    clear rA rR rO rT RY XY RZ TZ key hM XQ q2 q0 q1 hbb hbb' hbrow hown2 hZ2 hn2 HS
    refine ⟨_, rfl, fun _ => HSY, ?_⟩
    try simp only [Act.put, List.getElem_toArray, List.getElem_cons_zero, List.getElem_cons_succ, List.setIfInBounds_toArray, List.set_cons_zero, List.set_cons_succ]
    refine anyZ_ready (rs := [5]) (by kernel_rfl) (by simp) ?_
    refine readyZ.cons rfl rfl (run_append rfl (by rfl) (by rfl) HA.out) (fun _ => HSQ) ?_ readyZ.nil
    try simp only [Act.put, List.getElem_toArray, List.getElem_cons_zero, List.getElem_cons_succ, List.setIfInBounds_toArray, List.set_cons_zero, List.set_cons_succ]
    refine anyZ_ready (rs := [6]) (by kernel_rfl) (by simp) ?_
    refine readyZ.skip rfl rfl (w' := Q1.setCell ⟨w.heap.size + 2, 0, none⟩ (.slice a2 n2 c2)) (by clear HSY HSQ; go_simp) (fun h => absurd (by decide) h) ?_ readyZ.nil
    refine anyZ_done (by kernel_rfl) ?_ _
    dsimp only [Only, Exit.then]
    rw [HZ2.out]
    clear HSY HSQ f2 g2 HA HZ2
    have HS : (fun wx : World => wx.cell? ⟨w.heap.size + 2, 0, none⟩ = some (.slice a2 n2 c2) ∧ wx.cell? ⟨w.heap.size, 0, none⟩ = some (ptr p) ∧ wx.cell? ⟨w.heap.size + 1, 0, none⟩ = some (.int .i64 c) ∧ wx.cell? ⟨w.heap.size + 1, 1, none⟩ = some (.int .i64 s) ∧ wx.cell? ⟨Bx, 0, none⟩ = some (.int .i64 qx) ∧ wx.cell? ⟨Bx, 1, none⟩ = some (.int .i64 qy)) Z2.drew := ⟨HR2.out.b2.cell, HR2.out.b0.cell, HR2.out.b1.1.1, HR2.out.b1.1.2, HX2.out.c.1, HX2.out.c.2⟩
    gi_wp2_with fail
    refine wpIn_only ?_
    refine wpIn_region_zR (fun wx : World => wx.cell? ⟨w.heap.size + 2, 0, none⟩ = some (.slice a2 n2 c2) ∧ wx.cell? ⟨w.heap.size, 0, none⟩ = some (ptr p) ∧ wx.cell? ⟨w.heap.size + 1, 0, none⟩ = some (.int .i64 c) ∧ wx.cell? ⟨w.heap.size + 1, 1, none⟩ = some (.int .i64 s) ∧ wx.cell? ⟨Bx, 0, none⟩ = some (.int .i64 qx) ∧ wx.cell? ⟨Bx, 1, none⟩ = some (.int .i64 qy)) [6] only_in (by kernel_rfl) (by kernel_rfl) ?_
    refine anyZ_take 0 20 (v := .slice a2 n2 c2) rfl (by kernel_rfl) (fun _ _ _ h => h.elim) (Or.inl ⟨by rfl, fun wx hx => by obtain ⟨p0, p1, p2, p3, p4, p5⟩ := hx; clear HS; go_simp⟩) HS ?_
    try simp only [Act.put, List.getElem_toArray, List.getElem_cons_zero, List.getElem_cons_succ, List.setIfInBounds_toArray, List.set_cons_zero, List.set_cons_succ]
    refine anyZ_take 1 20 (v := ptr p) rfl (by kernel_rfl) (fun _ _ _ h => h.elim) (Or.inl ⟨by rfl, fun wx hx => by obtain ⟨p0, p1, p2, p3, p4, p5⟩ := hx; clear HS; go_simp⟩) HS ?_
    try simp only [Act.put, List.getElem_toArray, List.getElem_cons_zero, List.getElem_cons_succ, List.setIfInBounds_toArray, List.set_cons_zero, List.set_cons_succ]
    refine anyZ_take 2 20 (v := shv c s) rfl (by kernel_rfl) (fun _ _ _ h => h.elim) (Or.inl ⟨by rfl, fun wx hx => by obtain ⟨p0, p1, p2, p3, p4, p5⟩ := hx; clear HS; go_simp⟩) HS ?_
    try simp only [Act.put, List.getElem_toArray, List.getElem_cons_zero, List.getElem_cons_succ, List.setIfInBounds_toArray, List.set_cons_zero, List.set_cons_succ]
    refine anyZ_take 3 20 (v := cel qx qy) rfl (by kernel_rfl) (fun _ _ _ h => h.elim) (Or.inl ⟨by rfl, fun wx hx => by obtain ⟨p0, p1, p2, p3, p4, p5⟩ := hx; clear HS; go_simp⟩) HS ?_
    try simp only [Act.put, List.getElem_toArray, List.getElem_cons_zero, List.getElem_cons_succ, List.setIfInBounds_toArray, List.set_cons_zero, List.set_cons_succ]
    refine anyZ_ready (rs := [4]) (by kernel_rfl) (by simp) ?_
    refine readyZ.call rfl rfl (run_call12 (by rfl) (by rfl) (by simp only [List.map_toArray, List.map_cons, List.map_nil]; rfl)) (HBe.out Z2.drew (Below.drew HR2.out.bl) qx qy 1) ?_ readyZ.nil
    rintro e Y2 ⟨bv2, rfl, hbrow, hbb', -⟩
    have hbb : Below Z2.heap.size Z2 Y2 := Below.trans (Below.drew (Below.refl Z2.heap.size Z2)) hbb'
    have RY := HR2.out.upto hbb
    have XY := HX2.out.upto hbb
    obtain ⟨v2, Q2, rA, rR, rO, rT⟩ := RY.row.add hbrow (by have := ptQ_len (stB W H tl f c s) W H qx qy 1; have := Hlt.out; have := ptQ_len (stB W H tl f c s) W H qx qy 0; rw [List.length_append]; omega)
    obtain ⟨a3, c3, hv2⟩ := rR.slice4
    obtain ⟨n3, hn3⟩ : ∃ n, ((L0 ++ ptQ (stB W H tl f c s) W H qx qy 0) ++ ptQ (stB W H tl f c s) W H qx qy 1).length = n := ⟨_, rfl⟩
    rw [hn3] at hv2
    subst hv2
    have hown2 : ∀ g, (Value.slice a3 n3 c3).ownBlock = some g → X0.heap.size ≤ g := fun g e => by
      rcases rO g e with q | q
      · exact RY.own g q
      · have := RY.size; omega
    obtain ⟨RZ, TZ⟩ := RY.setL rT rR hown2
    have key : ∀ j, j < X0.heap.size → ¬ (Value.slice a2 n2 c2).ownBlock = some j := fun j hj e => by have := RY.own j e; omega
    have hM := RY.hM
    have XQ : TwB Q2 Bx qx qy := rT.same (fun e => RY.row.ne e XY (by decide) rfl) XY
    have q2 := boxed_kept RY.b2 rT (key _ (by omega))
    have q0 := boxed_kept RY.b0 rT (key _ (by omega))
    have q1 := two_kept RY.b1 rT (key _ (by omega))
    obtain ⟨Z3, hZ3⟩ : ∃ Z, Q2.setCell ⟨w.heap.size + 2, 0, none⟩ (.slice a3 n3 c3) = Z := ⟨_, rfl⟩
    rw [hZ3] at RZ TZ
    have HX3 : Hid (TwB Z3 Bx qx qy) := hide (by rw [← hZ3]; exact (Below.heap_setCell _ _ _ _ (by simp; omega)).trans XQ)
    have HKp2 : Hid (KeepI X0.heap.size Z2 Z3) := hide ((KeepI.of_below hbb).trans (RY.keep TZ))
    have HSY : (fun wx : World => wx.cell? ⟨w.heap.size + 2, 0, none⟩ = some (.slice a2 n2 c2) ∧ wx.cell? ⟨w.heap.size, 0, none⟩ = some (ptr p) ∧ wx.cell? ⟨w.heap.size + 1, 0, none⟩ = some (.int .i64 c) ∧ wx.cell? ⟨w.heap.size + 1, 1, none⟩ = some (.int .i64 s) ∧ wx.cell? ⟨Bx, 0, none⟩ = some (.int .i64 qx) ∧ wx.cell? ⟨Bx, 1, none⟩ = some (.int .i64 qy)) Y2 := ⟨RY.b2.cell, RY.b0.cell, RY.b1.1.1, RY.b1.1.2, XY.c.1, XY.c.2⟩
    have HSQ : (fun wx : World => wx.cell? ⟨w.heap.size + 2, 0, none⟩ = some (.slice a2 n2 c2) ∧ wx.cell? ⟨w.heap.size, 0, none⟩ = some (ptr p) ∧ wx.cell? ⟨w.heap.size + 1, 0, none⟩ = some (.int .i64 c) ∧ wx.cell? ⟨w.heap.size + 1, 1, none⟩ = some (.int .i64 s) ∧ wx.cell? ⟨Bx, 0, none⟩ = some (.int .i64 qx) ∧ wx.cell? ⟨Bx, 1, none⟩ = some (.int .i64 qy)) Q2 := ⟨q2.cell, q0.cell, q1.1.1, q1.1.2, XQ.c.1, XQ.c.2⟩
    have f2 := q2.frozen
    have g2 := q2.cell
    have HA := hide rA
    have HZ3 := hide hZ3
    have HR3 := hide RZ
    clear rA rR rO rT RY XY RZ TZ key hM XQ q2 q0 q1 hbb hbb' hbrow hown2 hZ3 hn3 HS
    refine ⟨_, rfl, fun _ => HSY, ?_⟩
    try simp only [Act.put, List.getElem_toArray, List.getElem_cons_zero, List.getElem_cons_succ, List.setIfInBounds_toArray, List.set_cons_zero, List.set_cons_succ]
    refine anyZ_ready (rs := [5]) (by kernel_rfl) (by simp) ?_
    refine readyZ.cons rfl rfl (run_append rfl (by rfl) (by rfl) HA.out) (fun _ => HSQ) ?_ readyZ.nil
    try simp only [Act.put, List.getElem_toArray, List.getElem_cons_zero, List.getElem_cons_succ, List.setIfInBounds_toArray, List.set_cons_zero, List.set_cons_succ]
    refine anyZ_ready (rs := [6]) (by kernel_rfl) (by simp) ?_
    refine readyZ.skip rfl rfl (w' := Q2.setCell ⟨w.heap.size + 2, 0, none⟩ (.slice a3 n3 c3)) (by clear HSY HSQ; go_simp) (fun h => absurd (by decide) h) ?_ readyZ.nil
    refine anyZ_done (by kernel_rfl) ?_ _
    dsimp only [Only, Exit.then]
    rw [HZ3.out]
    clear HSY HSQ f2 g2 HA HZ3
    have HE : Hid (KeepI X0.heap.size Z1 Z3 ∧ True ∧ ∃ lv, As w Z3 p c s lv (((pre ++ [(⟨(qx, qy), hqw⟩ : Cel)]).map (·.1)).flatMap (both2 (stB W H tl f c s) W H)) X0.heap.size) := hide ⟨HKp1.out.trans HKp2.out, trivial, _, by rw [Hfl.out]; exact HR3.out⟩
    clear HKp1 HKp2 HR1 HR2 HR3 HX1 HX2 HX3 Hlt
    gi_wp2_with fail
    exact HE.out
  case done =>
    rintro D xs Z hD rfl ⟨lv, hR⟩ hK
    have hlen : (((allK W H).map (·.1)).flatMap (both2 (stB W H tl f c s) W H)).length ≤ 1000000 := by
      have h1 := both2_len (stB W H tl f c s) W H ((allK W H).map (·.1))
      rw [List.length_map] at h1
      have h2 := Hlk.out
      omega
    obtain ⟨a1, c1, hlv⟩ := hR.row.slice4
    obtain ⟨n1, hn1⟩ : ∃ n, (((allK W H).map (·.1)).flatMap (both2 (stB W H tl f c s) W H)).length = n := ⟨_, rfl⟩
    rw [hn1] at hlv
    subst hlv
    have HSo := hide (sort31 hlen hR.row)
    have c2 := hR.b2.cell
    have HRd := hide hR
    clear hR hlen hn1 hR1 zX PX
    gi_wp2_with fail
    refine ⟨trivial, ?_⟩
    refine (callsIn_wide.2 HSo.out).mono ?_
    rintro e Z5 ⟨rfl, M, hp, hs, hrow5, hT5⟩
    have hM := HRd.out.hM
    have b5 := boxed_kept HRd.out.b2 hT5 (fun e => by have := HRd.out.own _ e; omega)
    have hDl := (Array.getElem?_eq_some_iff.1 hK).1
    have hK5 : Z5.heap[D]? = some (.deferred (some [])) := hT5.same (fun e => by
      obtain ⟨cur, hc⟩ := HRd.out.row.blk e
      rw [hK] at hc; cases hc) hK
    have T : Turns (fun j => j = D) Z5 (Z5.putObj D (.deferred none)) := turns_put _ _ _ rfl
    have HE : Hid (∃ lv L, Ending.returned (Value.slice a1 n1 c1) = .returned lv ∧ L.Perm (((allK W H).map (·.1)).flatMap (both2 (stB W H tl f c s) W H)) ∧ SrtP L ∧ Rq 64 (Z5.putObj D (.deferred none)) lv L ∧ Below w.heap.size w (Z5.putObj D (.deferred none)) ∧ ∀ g, lv.ownBlock = some g → w.heap.size ≤ g) := hide ⟨_, M, rfl, hp, hs, hrow5.kept T (fun g e q => by
      obtain ⟨cur, hc⟩ := hrow5.blk e
      subst q
      rw [hK5] at hc; cases hc), by
      have h1 := HRd.out.bl.trans (hT5.below (fun j e => by have := HRd.out.own j e; omega) HRd.out.bl.size)
      exact h1.trans (T.below (fun j e => by omega) h1.size), fun g e => by have := HRd.out.own g e; omega⟩
    have c5 := b5.cell
    clear hp hs hrow5 hT5 hM b5 T c2 HSo HRd
    gi_wp2_with fail
    refine ⟨by simp, .inl ⟨_, _, rfl, run_takeDeferred hK5, ?_⟩⟩
    exact ⟨_, by simp [results, Tryz.f14, go_sem], HE.out⟩
  case stop => exact fun D pre Z hD hp h hK => h.elim
end Go.Proofs.YtkjogcnoaipniaaGreatDoor
namespace Go.Proofs.YtkjogcnoaipniaaGreatDoor
open Go.RowKit Go.Shelf
set_option linter.unusedVariables false
set_option maxRecDepth 100000
set_option linter.unusedSimpArgs false
attribute [local go_sem] Oper.semAt_some
def tl128 : List Nat := List.replicate 128 0
theorem make128 (w : World) : (Instr.makeSlice 22 (.int .i64 128) (.int .i64 128)).run Tryz.prog w = .ok (.slice (some ⟨w.heap.size, 0, none⟩) 128 128) (w.alloc (.cells (tl128.map (fun n => Value.int .u8 (n : Nat))).toArray 5)) := by kernel_rfl
theorem made128 (w : World) : Tls (w.alloc (.cells (tl128.map (fun n => Value.int .u8 (n : Nat))).toArray 5)) (.slice (some ⟨w.heap.size, 0, none⟩) 128 128) tl128 :=
  ⟨rfl, .inr ⟨w.heap.size, 128, _, rfl, Nat.zero_le _, heap_alloc_new w _, Nat.le_refl _, by decide, rfl, rfl⟩⟩
theorem mt128 : mt 16 8 tl128 = true := by kernel_rfl
theorem lt128 : ∀ x ∈ tl128, x < 256 := by decide
theorem new128 (w : World) : Calls Tryz.prog 19 #[mp 16 8 (.slice (some ⟨w.heap.size, 0, none⟩) 128 128) (.slice none 0 0)] (w.alloc (.cells (tl128.map (fun n => Value.int .u8 (n : Nat))).toArray 5))
    fun e w' => ∃ p, e = .returned (.tuple #[ptr p, .int .i64 0]) ∧ Wl w' p 16 8 tl128 (whoL []) ∧ Below w.heap.size w w' := by
  refine (new_good 16 8 _ (.slice none 0 0) tl128 [] _ (made128 w).r lt128 (BdR.nil _) mt128).mono ?_
  rintro e w' (⟨-, p, he, hm⟩ | ⟨h, -⟩)
  · have := hm.wl mt128 lt128
    exact ⟨p, he, this.1, bt (box1 _ _) this.2⟩
  · cases h
theorem list128 : ((allK 16 8).map (·.1)).flatMap (both2 (stB 16 8 tl128 (whoL []) 0 1) 16 8) = [⟨7, 3, 8, 3⟩] := by kernel_rfl
theorem eq64 (w : World) : (binOp .eql 64 (rct 7 3 8 3) (rct 7 3 8 3)).run Tryz.prog w = .ok (.bool true) w := by kernel_rfl
theorem st_has {W H : Int} {tl : List Nat} {f : Int → Int → Option Int} {c s u v : Int} (h : stB W H tl f c s u v = true) : has 0 0 W H u v = true := by
  simp only [stB, stU, wi, Bool.and_eq_true] at h
  obtain ⟨⟨hm, h1, -⟩, -⟩ := h
  cases hb : fB c s u v
  · rw [fi_no hb] at hm
    have := ((may_iff _ _ _ _).1 hm).2.1
    rw [fi_no hb] at this
    omega
  · rw [fi_yes hb, fi_yes hb] at h1
    exact h1
theorem st_in {W H : Int} {tl : List Nat} {f : Int → Int → Option Int} {c s : Int} (hW : 1 ≤ W ∧ W ≤ 128) (hH : 1 ≤ H ∧ H ≤ 128) (u v : Int) (h : stB W H tl f c s u v = true) : (0 ≤ u ∧ u < W) ∧ 0 ≤ v ∧ v < H := by
  have := (has_iff _ _ _ _ _ _).1 (st_has h)
  omega
set_option maxHeartbeats 4000000 in
theorem awake_is (w : World) (hg : Grnd w) (ho : Offs w) : Calls Tryz.prog 7 #[] w fun e w' => e = .returned (.bool true) ∧ Below w.heap.size w w' := by
  have hmk := make128 w
  have HN := hide (new128 w)
  have HG := hide hg
  have HO := hide ho
  clear hg ho
  go_enter Tryz.func7, Tryz.ntmps7
  go_wp2_with fail
  refine HN.out.mono ?_
  rintro e w1 ⟨p, rfl, hw1, hb1⟩
  have HA := hide (pall_is (w := w1) 0 1 hw1 (HG.out.kept hb1) (HO.out.kept hb1) (fun u v h => st_in (by omega) (by omega) u v h))
  rw [list128] at HA
  have Hb1 := hide hb1
  clear hmk HN hw1 hb1 HG HO
  go_wp2_with fail
  refine HA.out.mono ?_
  rintro e w2 ⟨lv, L, rfl, hp, -, hrow, hb2, -⟩
  obtain rfl : L = [⟨7, 3, 8, 3⟩] := List.perm_singleton.1 hp
  obtain ⟨g, cap, hlv, -, -⟩ := Rw.own_some (L := []) hrow
  rw [List.length_nil, Nat.zero_add] at hlv
  subst hlv
  obtain ⟨⟨l0, l1, l2, l3⟩, -⟩ := Rw.lastq (L := []) hrow
  simp only [List.length_nil, Nat.zero_mul, Nat.zero_add] at l0 l1 l2 l3
  have he := eq64
  have Hb2 := hide (bt Hb1.out hb2)
  clear hp hrow hb2 HA
  go_wp2_with fail
  go_ret
  exact ⟨rfl, Hb2.out⟩
end Go.Proofs.YtkjogcnoaipniaaGreatDoor
namespace Go.Proofs.YtkjogcnoaipniaaGreatDoor
open Go.RowKit Go.Shelf
set_option linter.unusedVariables false
set_option linter.unusedSimpArgs false
attribute [local go_sem] Oper.semAt_some
theorem neq64 (x y a b : Int) (w : World) : (binOp .neq 64 (rct x y a b) (rct x y a b)).run Tryz.prog w = .ok (.bool false) w := by go_simp
theorem neq48 (x y a b : Int) (w : World) : (binOp .neq 48 (rct x y a b) (rct x y a b)).run Tryz.prog w = .ok (.bool false) w := by go_simp
/-- One of a row. -/
theorem Rw.atq {ty : Nat} {w : World} {a : Option Addr} {m c : Nat} {L : List Q4} (h : Rq ty w (.slice a m c) L) {i : Nat} {t : Q4} (ht : L[i]? = some t) :
    ∃ g, a = some ⟨g, 0, none⟩ ∧ g < w.heap.size ∧ w.cell? ⟨g, i * 4, none⟩ = some (.int .i64 t.x) ∧ w.cell? ⟨g, i * 4 + 1, none⟩ = some (.int .i64 t.y) ∧ w.cell? ⟨g, i * 4 + 2, none⟩ = some (.int .i64 t.a) ∧ w.cell? ⟨g, i * 4 + 3, none⟩ = some (.int .i64 t.b) := by
  obtain ⟨a', c', e, -, hel⟩ := Rw.form Q4.cs_len h
  simp only [Value.slice.injEq] at e
  obtain ⟨rfl, -, rfl⟩ := e
  obtain ⟨g, hg, hl, hc⟩ := hel i t ht
  exact ⟨g, hg, hl, by simpa [Q4.cs] using hc 0 _ rfl, by simpa [Q4.cs] using hc 1 _ rfl, by simpa [Q4.cs] using hc 2 _ rfl, by simpa [Q4.cs] using hc 3 _ rfl⟩
set_option maxRecDepth 100000 in
set_option maxHeartbeats 4000000 in
theorem same_yes {w : World} {u v : Value} {L : List Q4} (hlen : L.length ≤ 1000000) (hu : Rq 64 w u L) (hv : Rq 64 w v L) : Calls Tryz.prog 11 #[u, v] w fun e w' => e = .returned (.bool true) ∧ Below w.heap.size w w' := by
  obtain ⟨a1, c1, hu1⟩ := hu.slice4
  obtain ⟨a2, c2, hv1⟩ := hv.slice4
  subst hu1
  subst hv1
  have hlI : (0 : Int) ≤ (L.length : Nat) ∧ ((L.length : Nat) : Int) ≤ 1000000 := by omega
  have Hu := hide hu
  have Hv := hide hv
  clear hu hv
  go_enter Tryz.func11, Tryz.ntmps11
  go_wp2_with fail
  go_loopw [5] (fun d wr => ∃ i : Nat, d = .int .i64 (i : Nat) ∧ i ≤ L.length ∧ Below w.heap.size w wr) (fun d _ => L.length - (intOf d).toNat)
  case atStart => exact ⟨0, rfl, Nat.zero_le _, Below.refl _ _⟩
  case round =>
    obtain ⟨i, rfl, hi, hbl⟩ := hrel
    by_cases hlt : i < L.length
    · have hli : ((i : Nat) : Int) < (L.length : Nat) := by omega
      have hiI : (0 : Int) ≤ (i : Nat) ∧ ((i : Nat) : Int) ≤ 1000000 := by omega
      obtain ⟨g1, hg1, -, p0, p1, p2, p3⟩ := (Hu.out.upto hbl).atq (List.getElem?_eq_getElem hlt)
      obtain ⟨g2, hg2, -, p4, p5, p6, p7⟩ := (Hv.out.upto hbl).atq (List.getElem?_eq_getElem hlt)
      subst hg1
      subst hg2
      obtain ⟨t, ht⟩ : ∃ t, L[i] = t := ⟨_, rfl⟩
      rw [ht] at p0 p1 p2 p3 p4 p5 p6 p7
      obtain ⟨tx, ty, ta, tb⟩ := t
      simp only at p0 p1 p2 p3 p4 p5 p6 p7
      have HS : (fun wx : World => (wx.cell? ⟨g1, i * 4, none⟩ = some (.int .i64 tx) ∧ wx.cell? ⟨g1, i * 4 + 1, none⟩ = some (.int .i64 ty) ∧ wx.cell? ⟨g1, i * 4 + 2, none⟩ = some (.int .i64 ta) ∧ wx.cell? ⟨g1, i * 4 + 3, none⟩ = some (.int .i64 tb)) ∧ wx.cell? ⟨g2, i * 4, none⟩ = some (.int .i64 tx) ∧ wx.cell? ⟨g2, i * 4 + 1, none⟩ = some (.int .i64 ty) ∧ wx.cell? ⟨g2, i * 4 + 2, none⟩ = some (.int .i64 ta) ∧ wx.cell? ⟨g2, i * 4 + 3, none⟩ = some (.int .i64 tb)) wr.drew := ⟨⟨p0, p1, p2, p3⟩, p4, p5, p6, p7⟩
      have hne := neq64 tx ty ta tb
      have Hbl := hide hbl
      clear p0 p1 p2 p3 p4 p5 p6 p7 ht hbl
      go_wp2_with fail
      refine wp_only ?_
      refine wp_region_z (fun wx : World => (wx.cell? ⟨g1, i * 4, none⟩ = some (.int .i64 tx) ∧ wx.cell? ⟨g1, i * 4 + 1, none⟩ = some (.int .i64 ty) ∧ wx.cell? ⟨g1, i * 4 + 2, none⟩ = some (.int .i64 ta) ∧ wx.cell? ⟨g1, i * 4 + 3, none⟩ = some (.int .i64 tb)) ∧ wx.cell? ⟨g2, i * 4, none⟩ = some (.int .i64 tx) ∧ wx.cell? ⟨g2, i * 4 + 1, none⟩ = some (.int .i64 ty) ∧ wx.cell? ⟨g2, i * 4 + 2, none⟩ = some (.int .i64 ta) ∧ wx.cell? ⟨g2, i * 4 + 3, none⟩ = some (.int .i64 tb)) [] (by kernel_rfl) ?_
      refine anyZ_take 0 20 (v := .slice (some ⟨g1, 0, none⟩) L.length c1) rfl (by kernel_rfl) (fun _ _ _ h => h.elim) (Or.inl ⟨by rfl, fun wx hx => by obtain ⟨⟨p0, p1, p2, p3⟩, p4, p5, p6, p7⟩ := hx; clear HS; go_simp⟩) HS ?_
      try simp only [Act.put, List.getElem_toArray, List.getElem_cons_zero, List.getElem_cons_succ, List.setIfInBounds_toArray, List.set_cons_zero, List.set_cons_succ]
      refine anyZ_take 1 20 (v := .int .i64 (i : Nat)) rfl (by kernel_rfl) (fun _ _ _ h => h.elim) (Or.inl ⟨by rfl, fun wx hx => by obtain ⟨⟨p0, p1, p2, p3⟩, p4, p5, p6, p7⟩ := hx; clear HS; go_simp⟩) HS ?_
      try simp only [Act.put, List.getElem_toArray, List.getElem_cons_zero, List.getElem_cons_succ, List.setIfInBounds_toArray, List.set_cons_zero, List.set_cons_succ]
      refine anyZ_take 2 20 (v := .pointer (some ⟨g1, i * 4, none⟩)) rfl (by kernel_rfl) (fun _ _ _ h => h.elim) (Or.inl ⟨by rfl, fun wx hx => by obtain ⟨⟨p0, p1, p2, p3⟩, p4, p5, p6, p7⟩ := hx; clear HS; go_simp⟩) HS ?_
      try simp only [Act.put, List.getElem_toArray, List.getElem_cons_zero, List.getElem_cons_succ, List.setIfInBounds_toArray, List.set_cons_zero, List.set_cons_succ]
      refine anyZ_take 3 20 (v := rct tx ty ta tb) rfl (by kernel_rfl) (fun _ _ _ h => h.elim) (Or.inl ⟨by rfl, fun wx hx => by obtain ⟨⟨p0, p1, p2, p3⟩, p4, p5, p6, p7⟩ := hx; clear HS; go_simp⟩) HS ?_
      try simp only [Act.put, List.getElem_toArray, List.getElem_cons_zero, List.getElem_cons_succ, List.setIfInBounds_toArray, List.set_cons_zero, List.set_cons_succ]
      refine anyZ_take 4 20 (v := .slice (some ⟨g2, 0, none⟩) L.length c2) rfl (by kernel_rfl) (fun _ _ _ h => h.elim) (Or.inl ⟨by rfl, fun wx hx => by obtain ⟨⟨p0, p1, p2, p3⟩, p4, p5, p6, p7⟩ := hx; clear HS; go_simp⟩) HS ?_
      try simp only [Act.put, List.getElem_toArray, List.getElem_cons_zero, List.getElem_cons_succ, List.setIfInBounds_toArray, List.set_cons_zero, List.set_cons_succ]
      refine anyZ_take 5 20 (v := .int .i64 (i : Nat)) rfl (by kernel_rfl) (fun _ _ _ h => h.elim) (Or.inl ⟨by rfl, fun wx hx => by obtain ⟨⟨p0, p1, p2, p3⟩, p4, p5, p6, p7⟩ := hx; clear HS; go_simp⟩) HS ?_
      try simp only [Act.put, List.getElem_toArray, List.getElem_cons_zero, List.getElem_cons_succ, List.setIfInBounds_toArray, List.set_cons_zero, List.set_cons_succ]
      refine anyZ_take 6 20 (v := .pointer (some ⟨g2, i * 4, none⟩)) rfl (by kernel_rfl) (fun _ _ _ h => h.elim) (Or.inl ⟨by rfl, fun wx hx => by obtain ⟨⟨p0, p1, p2, p3⟩, p4, p5, p6, p7⟩ := hx; clear HS; go_simp⟩) HS ?_
      try simp only [Act.put, List.getElem_toArray, List.getElem_cons_zero, List.getElem_cons_succ, List.setIfInBounds_toArray, List.set_cons_zero, List.set_cons_succ]
      refine anyZ_take 7 20 (v := rct tx ty ta tb) rfl (by kernel_rfl) (fun _ _ _ h => h.elim) (Or.inl ⟨by rfl, fun wx hx => by obtain ⟨⟨p0, p1, p2, p3⟩, p4, p5, p6, p7⟩ := hx; clear HS; go_simp⟩) HS ?_
      try simp only [Act.put, List.getElem_toArray, List.getElem_cons_zero, List.getElem_cons_succ, List.setIfInBounds_toArray, List.set_cons_zero, List.set_cons_succ]
      refine anyZ_take 8 20 (v := .bool false) rfl (by kernel_rfl) (fun _ _ _ h => h.elim) (Or.inl ⟨by rfl, fun wx hx => by obtain ⟨⟨p0, p1, p2, p3⟩, p4, p5, p6, p7⟩ := hx; clear HS; go_simp⟩) HS ?_
      try simp only [Act.put, List.getElem_toArray, List.getElem_cons_zero, List.getElem_cons_succ, List.setIfInBounds_toArray, List.set_cons_zero, List.set_cons_succ]
      refine anyZ_done (by kernel_rfl) ?_ _
      dsimp only [Only, Exit.then]
      have HE : Hid (∃ i' : Nat, (Value.int .i64 (((i : Nat) : Int) + 1)) = .int .i64 (i' : Nat) ∧ i' ≤ L.length ∧ Below w.heap.size w wr.drew) := hide ⟨i + 1, by push_cast; rfl, by omega, Below.drew Hbl.out⟩
      clear HS hne Hbl
      go_wp2_with fail
      go_roundw
      case rel => exact HE.out
      case measure => simp [intOf]; omega
    · have hle : ¬ ((i : Nat) : Int) < (L.length : Nat) := by omega
      have Hbl := hide hbl
      clear hbl
      go_wp2_with fail
      go_ret
      exact ⟨rfl, Hbl.out⟩
end Go.Proofs.YtkjogcnoaipniaaGreatDoor
namespace Go.Proofs.YtkjogcnoaipniaaGreatDoor
open Go.RowKit Go.Shelf
set_option linter.unusedVariables false
set_option linter.unusedSimpArgs false
theorem dims_is {W H : Int} {tl : List Nat} {L : List Bd} (hc : chkC W H tl L = 0) : ∃ wd ht : Nat, W = (wd : Int) ∧ H = (ht : Int) ∧ (1 ≤ wd ∧ wd ≤ 128) ∧ 1 ≤ ht ∧ ht ≤ 128 := by
  have h := (chkC_zero hc).1
  simp only [mt, gs, Bool.and_eq_true, decide_eq_true_eq] at h
  exact ⟨W.toNat, H.toNat, by omega, by omega, by omega, by omega⟩
theorem gS_st {wd ht : Nat} {tl : List Nat} {f : Int → Int → Option Int} {c s : Int} (hd : (1 ≤ wd ∧ wd ≤ 128) ∧ 1 ≤ ht ∧ ht ≤ 128) :
    gS wd ht (fun k => stB wd ht tl f c s ((k % wd : Nat) : Int) ((k / wd : Nat) : Int)) = stB wd ht tl f c s := by
  funext x y
  unfold gS
  by_cases h : (0 ≤ x ∧ x < (wd : Nat)) ∧ 0 ≤ y ∧ y < (ht : Nat)
  · rw [decide_eq_true h, Bool.true_and]
    have e := idx_mod (w := wd) (x := x.toNat) (y := y.toNat) (by omega)
    simp only [e.1, e.2]
    rw [Int.toNat_of_nonneg h.1.1, Int.toNat_of_nonneg h.2.1]
  · rw [decide_eq_false h, Bool.false_and]
    cases hs : stB wd ht tl f c s x y
    · rfl
    · exact absurd (st_in (by omega) (by omega) x y hs) h
/-- What the document's Steps tells. -/
theorem dst_is {w : World} {wd ht N : Nat} {tl : List Nat} {f : Int → Int → Option Int} {c s : Int} {a : Option Addr} {n cap : Nat} (hd : (1 ≤ wd ∧ wd ≤ 128) ∧ 1 ≤ ht ∧ ht ≤ 128) (hN : N = wd * ht)
    (h : Rw 4 1 cB w (.slice a n cap) ((List.range N).map (fun k => stB wd ht tl f c s ((k % wd : Nat) : Int) ((k / wd : Nat) : Int)))) (d : Int) :
    ∀ wx, Below w.heap.size w wx → ∀ x y, Calls Tryz.prog 16 #[gdv wd ht (.slice a n cap), cel x y, .int .i64 d] wx fun e w' => e = .returned (.tuple #[cel (if lg (stB wd ht tl f c s) x y d = true then sX x y d else 0) (if lg (stB wd ht tl f c s) x y d = true then sY x y d else 0), .bool (lg (stB wd ht tl f c s) x y d)]) ∧ Below wx.heap.size wx w' := fun wx q x y => by
  have h1 := gsteps_of (w := wx) (wd := wd) (ht := ht) (iv := .slice a n cap) (gS wd ht (fun k => stB wd ht tl f c s ((k % wd : Nat) : Int) ((k / wd : Nat) : Int))) x y d a n cap rfl (fun wy k u v => gstands_any u v (show Gd wy wd ht N _ _ from (h.upto q).upto k) ⟨hd.1.2, hd.2.2⟩ hN)
  rwa [gS_st hd] at h1
end Go.Proofs.YtkjogcnoaipniaaGreatDoor
