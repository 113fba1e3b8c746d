/-
  phalanxlaw06.ClassBack, walked, behind what ClassSteps asks for.
-/
import Derived.Test.YthacppifndakjaaDoorLatIn
import Derived.Deep.RegionHeld
import Derived.RangeFuncCalls
import Derived.Test.YthacppifndakjaaDoorStand
import Derived.Test.YthacppifndakjaaDoorCAround
import Derived.Test.YthacppifndakjaaDoorPathsWalk
namespace Go.Proofs.YthacppifndakjaaDoor
open Go.RowKit
set_option linter.unusedVariables false
section
variable {n l : Nat} {P : Program} {ops : Array Oper} {md : Region.Mode} {Q : Exit → Act → World → Prop}
theorem oper_in {o : Oper} {a : Act} {w : World} {K K' : Act → World → Prop} (hnd : ∀ c, o.op ≠ .defer c) (hK : ∀ a w, K a w → K' a w) (h : o.wp P a w K Q) : o.wpIn (Fence.wide.inRound l) n P a w K' Q := by
  unfold Oper.wp at h
  unfold Oper.wpIn
  refine ⟨fun _ _ => trivial, ?_⟩
  rw [Oper.semAt_eq _ _ _ hnd]
  generalize (execOp a.eval o).run P w = r at *
  cases r with
  | ok x w' =>
    cases x <;> simp only [Oper.upon] at h <;> simp only [Oper.uponIn]
    case value u => exact hK _ _ h
    case skip => exact hK _ _ h
    case defer d => exact hK _ _ h
    case enter f args =>
      refine ⟨(fun h => by cases h), CallsIn.inRound l (callsIn_wide.2 (h.mono ?_))⟩
      rintro e w'' he
      cases e with
      | returned v => exact hK _ _ he
      | panicked ch => exact he
      | outgrown => exact he
    case row r args =>
      refine ⟨(fun h => by cases h), fun c cs _ => ?_⟩
      obtain ⟨v, w2, hr, hs⟩ := h c cs
      exact ⟨v, w2, hK _ _ hr, stepsIn_wide.2 hs⟩
  | halt x w' => cases x <;> exact h
theorem wpOp_in {i : Nat} {a : Act} {w : World} {K K' : Act → World → Prop} (hno : ¬ LetsOut Q) (hnd : ∀ (i : Nat) (o : Oper), ops[i]? = some o → ∀ c, o.op ≠ .defer c) (hK : ∀ a w, K a w → K' a w)
    (h : wpOp P ops Q i K a w) : wpOpIn (Fence.wide.inRound l) n P ops Q i K' a w := by
  unfold wpOp at h
  unfold wpOpIn
  split
  · rename_i ho; simp only [ho] at h; exact hK _ _ h
  · rename_i o ho
    simp only [ho] at h
    split
    · rename_i hw
      simp only [hw, if_true] at h
      rcases h with h | h
      · exact oper_in (hnd i o ho) hK h
      · exact absurd h.2 hno
    · rename_i hw
      simp only [hw] at h
      exact ⟨fun _ _ => trivial, hK _ _ h⟩
theorem wpAny_in (hno : ¬ LetsOut Q) (hnd : ∀ (i : Nat) (o : Oper), ops[i]? = some o → ∀ c, o.op ≠ .defer c) : ∀ (fuel : Nat) (listed : Array Bool) (a : Act) (w : World),
    wpAny P md ops Q fuel listed a w → wpAnyIn (Fence.wide.inRound l) n P md ops Q fuel listed a w
  | 0, _, _, _, h => h
  | fuel + 1, _, _, _, h => ⟨h.1, fun i hi => wpOp_in hno hnd (fun a' w' => wpAny_in hno hnd fuel _ a' w') (h.2 i hi)⟩
end
theorem wpIn_region_heldR {n l : Nat} {P : Program} {id : Nat} {Q : Exit → Act → World → Prop} {a : Act} {w : World} {L : List Oper} {S : World → Prop} (hno : ¬ LetsOut Q) (hm : P.follows .mixedOrders = true) (hd : noDefer L = true) (hS : S w.drew)
    (h : S w.drew → wpAnyH P .any L.toArray Q S L.toArray.size (Array.replicate L.toArray.size false) a w.drew) : (Code.region id L.toArray true).wpIn (Fence.wide.inRound l) n P Q a w :=
  wpIn_region_any hm (wpAny_in hno (fun i o ho => noDefer_at hd ho) _ _ _ _ (wpAny_of_held _ _ _ _ (h hS)))
theorem only_in {K : Act → World → Prop} : ¬ LetsOut (Only K) := fun ⟨_, _, h⟩ => h
end Go.Proofs.YthacppifndakjaaDoor
namespace Go.Proofs.YthacppifndakjaaDoor
open Go.RowKit Go.Shelf
set_option linter.unusedVariables false
attribute [local go_sem] Oper.semAt_some
set_option maxHeartbeats 1000000 in
theorem caround_any (p : Nat) (c s x y : Int) (w : World) :
    Calls Tryd.prog 18 #[ptr p, shv c s, cel x y] w fun e w' => e = .returned (.func (.func 40) #[] #[ptr w.heap.size, ptr (w.heap.size + 1), ptr (w.heap.size + 1 + 1)]) ∧ w' = ((w.alloc (.cells #[ptr p] 37)).alloc (.cells #[.int .i64 c, .int .i64 s] 23)).alloc (.cells #[.int .i64 x, .int .i64 y] 25) := by
  go_enter Tryd.func18, Tryd.ntmps18
  go_wp2_with fail
  go_ret
  exact ⟨rfl, rfl⟩
theorem cap_new (w : World) (p : Nat) (c s x y : Int) : Cap (((w.alloc (.cells #[ptr p] 37)).alloc (.cells #[.int .i64 c, .int .i64 s] 23)).alloc (.cells #[.int .i64 x, .int .i64 y] 25)) w.heap.size p c s x y :=
  ⟨((Boxed.new w 37 (ptr p)).alloc _).alloc _, (Two.newAt (by simp)).alloc, Two.newAt (by simp)⟩
theorem off_inj : ∀ j k : Fin 8, j ≠ k → ¬ (dX j.val = dX k.val ∧ dY j.val = dY k.val) := by decide
/-- The direction of a step is the one by which it was made. -/
theorem dirN_self {x y : Int} {k : Nat} (hk : k < 8) (h : sB x y k = true) : dirN x y (x + dX k) (y + dY k) = k := by
  have hm : ∀ j : Nat, j < 8 → j ≠ k → hit x y (x + dX k) (y + dY k) j = false := fun j hj hne => by
    cases hs : sB x y (j : Int)
    · simp [hit, hs]
    · simp only [hit, hs, sX_yes hs, sY_yes hs, Int.toNat_natCast, Bool.true_and, Bool.and_eq_false_iff, decide_eq_false_iff_not]
      have := off_inj ⟨j, hj⟩ ⟨k, hk⟩ (fun e => hne (by simpa using e))
      simp only at this
      omega
  have hh : hit x y (x + dX k) (y + dY k) k = true := by
    simp only [hit, h, sX_yes h, sY_yes h, Int.toNat_natCast, decide_true, Bool.and_self]
  suffices H : ∀ n a : Nat, a + n = k → dirF (hit x y (x + dX k) (y + dY k)) a (8 - a) = k by exact H k 0 (by omega)
  intro n
  induction n with
  | zero =>
    intro a ha
    obtain rfl : a = k := by omega
    exact dirF_hit hk hh
  | succ n ih => intro a ha; rw [dirF_miss (by omega) (hm a (by omega) (by omega))]; exact ih (a + 1) (by omega)
/-- All legal directions. -/
abbrev LL (S : Int → Int → Bool) (x y W H : Int) : List (Fin 8) := legL S x y (roundN x y 0 0 W H 8)
theorem LL_sorted (S : Int → Int → Bool) (x y W H : Int) : (LL S x y W H).Pairwise (fun a b => a.val < b.val) := by
  have h0 : (List.finRange 8).Pairwise (fun a b => a.val < b.val) := by rw [fin8]; decide
  exact (((h0.sublist (List.take_sublist 8 _)).filter _).filter _)
theorem LL_mem {S : Int → Int → Bool} {x y W H : Int} {k : Fin 8} (h : k ∈ LL S x y W H) : lg S x y (k.val : Int) = true := (List.mem_filter.1 h).2
theorem lg_sB {S : Int → Int → Bool} {x y d : Int} (h : lg S x y d = true) : sB x y d = true := by
  simp only [lg, Bool.and_eq_true] at h; exact h.1
theorem mem_LL {W H : Int} {tl : List Nat} {f : Int → Int → Option Int} {c s x y : Int} {k : Nat} (hk : k < 8) (h : lg (stB W H tl f c s) x y (k : Int) = true) : (⟨k, hk⟩ : Fin 8) ∈ LL (stB W H tl f c s) x y W H := by
  refine List.mem_filter.2 ⟨List.mem_filter.2 ⟨by simp [List.take_of_length_le], ?_⟩, h⟩
  have hs := lg_sB h
  simp only [lg, sX_yes hs, sY_yes hs, Int.toNat_natCast, Bool.and_eq_true] at h
  show inn x y 0 0 W H k = true
  simp [inn, hs, st_has h.2.2.1]
def lastF (pre : List (Fin 8)) : Int := (pre.getLast?.map (fun k => (k.val : Int))).getD (-1)
theorem lastF_snoc (pre : List (Fin 8)) (k : Fin 8) : lastF (pre ++ [k]) = k.val := by simp [lastF]
theorem next_gt {S : Int → Int → Bool} {x y W H : Int} {pre : List (Fin 8)} {k : Fin 8} (h : pre ++ [k] <+: LL S x y W H) : lastF pre < k.val := by
  have hp := (LL_sorted S x y W H).sublist h.sublist
  rw [List.pairwise_append] at hp
  unfold lastF
  cases hl : pre.getLast? with
  | none => simp; omega
  | some j =>
    have := hp.2.2 j (List.mem_of_getLast? hl) k (by simp)
    simp; omega
def metF (pre : List (Fin 8)) : Nat → Bool := fun k => pre.any (fun j => decide (j.val = k))
theorem metF_snoc (pre : List (Fin 8)) (k : Fin 8) : metF (pre ++ [k]) = fun j => if j = k.val then true else metF pre j := by
  funext j
  unfold metF
  rw [List.any_append]
  by_cases h : j = k.val
  · simp [h]
  · simp [h, Ne.symm h]
theorem metF_LL {W H : Int} {tl : List Nat} {f : Int → Int → Option Int} {c s x y : Int} {k : Nat} (hk : k < 8) : metF (LL (stB W H tl f c s) x y W H) k = lg (stB W H tl f c s) x y (k : Int) := by
  cases h : lg (stB W H tl f c s) x y (k : Int)
  · rw [Bool.eq_false_iff]
    intro hm
    obtain ⟨j, hj, e⟩ := List.any_eq_true.1 hm
    have := LL_mem hj
    rw [of_decide_eq_true e, h] at this
    cases this
  · exact List.any_eq_true.2 ⟨⟨k, hk⟩, mem_LL hk h, by simp⟩
theorem KN.set {N h : Nat} {X Y : World} {p : Addr} (v : Value) (k : KN N h X Y) (h1 : N ≤ p.block) (h2 : p.block < h) : KN N h X (Y.setCell p v) :=
  ⟨k.1.setCell h1 v, (Below.heap_setCell Y p v h (by omega)).trans k.2.1, (Below.heap_setCell Y p v (h + 1) (by omega)).trans k.2.2.1, (Below.heap_setCell Y p v (h + 1 + 1) (by omega)).trans k.2.2.2⟩
theorem boxed_upto2 {w : World} {b : Nat} {t : TypeId} {u v : Value} {p : Addr} (h : Boxed w b t u) (hb : b ≠ p.block) : Boxed (w.setCell p v) b t u := (Below.heap_setCell w p v b hb).trans h
theorem Arr.other {w : World} {b : Nat} {f : Nat → Bool} {p : Addr} (v : Value) (h : Arr w b f) (hb : b ≠ p.block) : Arr (w.setCell p v) b f := (Below.heap_setCell w p v b hb).trans h
abbrev WSt (w : World) (W H : Int) (tv bv : Value) (c s x y : Int) : World := (((w.alloc (.cells #[.int .i64 W, .int .i64 H, tv, bv] 36)).alloc (.cells #[.int .i64 c, .int .i64 s] 23)).alloc (.cells #[.int .i64 x, .int .i64 y] 25)).alloc (.cells #[.bool false] 4)
theorem wst_below (w : World) (W H : Int) (tv bv : Value) (c s x y : Int) : Below w.heap.size w (WSt w W H tv bv c s x y) := bt (box2 _ _ _) (box2 _ _ _)
theorem wst_size (w : World) (W H : Int) (tv bv : Value) (c s x y : Int) : (WSt w W H tv bv c s x y).heap.size = w.heap.size + 4 := by simp
theorem wst_map (w : World) (W H : Int) (tv bv : Value) (c s x y : Int) : MB (WSt w W H tv bv c s x y) w.heap.size W H tv bv := ((MB.new w W H tv bv).kept (box2 _ _ _)).kept (box1 _ _)
theorem wst_shape (w : World) (W H : Int) (tv bv : Value) (c s x y : Int) : Two (WSt w W H tv bv c s x y) (w.heap.size + 1) c s := ((Two.newAt (by simp)).alloc).alloc
theorem wst_cell (w : World) (W H : Int) (tv bv : Value) (c s x y : Int) : Two (WSt w W H tv bv c s x y) (w.heap.size + 1 + 1) x y := (Two.newAt (by simp)).alloc
theorem wst_res (w : World) (W H : Int) (tv bv : Value) (c s x y : Int) : Boxed (WSt w W H tv bv c s x y) (w.heap.size + 1 + 1 + 1) 4 (.bool false) := by
  have := Boxed.new (((w.alloc (.cells #[.int .i64 W, .int .i64 H, tv, bv] 36)).alloc (.cells #[.int .i64 c, .int .i64 s] 23)).alloc (.cells #[.int .i64 x, .int .i64 y] 25)) 4 (.bool false)
  simpa using this
set_option maxRecDepth 100000 in
set_option maxHeartbeats 8000000 in
theorem steps_walk (W H : Int) (tv bv : Value) (tl : List Nat) (L : List Bd) (c s x y : Int) (w : World) (hv : TlR w tv tl) (hb : ∀ n ∈ tl, n < 256) (hl : BdR w bv L) (hg : Grnd w) (ho : Offs w) :
    Calls Tryd.prog 5 #[mp W H tv bv, shv c s, .agg #[.int .i64 x, .int .i64 y]] w fun e w' => e = .returned (.bool true) ∧ Below w.heap.size w w' := by
  have B0 := wst_below w W H tv bv c s x y
  have z0 := wst_size w W H tv bv c s x y
  have M0 := wst_map w W H tv bv c s x y
  have S0 := wst_shape w W H tv bv c s x y
  have C0 := wst_cell w W H tv bv c s x y
  have R0 := wst_res w W H tv bv c s x y
  unfold WSt at B0 z0 M0 S0 C0 R0
  obtain ⟨X, hX⟩ : ∃ X, (((w.alloc (.cells #[.int .i64 W, .int .i64 H, tv, bv] 36)).alloc (.cells #[.int .i64 c, .int .i64 s] 23)).alloc (.cells #[.int .i64 x, .int .i64 y] 25)).alloc (.cells #[.bool false] 4) = X := ⟨_, rfl⟩
  rw [hX] at B0 z0 M0 S0 C0 R0
  have HGO : Hid (∀ wx, Below w.heap.size w wx → Grnd wx ∧ Offs wx) := hide fun wx hx => ⟨hg.kept hx, ho.kept hx⟩
  have HAw : Hid (∀ wx, Below w.heap.size w wx → Calls Tryd.prog 14 #[] wx fun e w' => e = .returned (.bool true) ∧ Below wx.heap.size wx w') := hide fun wx hx => awake_any wx (HGO.out wx hx).1 (HGO.out wx hx).2
  have HV : Hid (∀ wx, Below w.heap.size w wx → TlR wx tv tl ∧ BdR wx bv L) := hide fun wx hx => ⟨hv.kept hx, hl.kept hx⟩
  have hvf := hv
  have hlf := hl
  obtain ⟨a1, cap1, rfl, -⟩ := hvf
  obtain ⟨a2, cap2, rfl, -⟩ := hlf
  clear hv hl hg ho
  refine (callsIn_wide (n := 10)).1 ?_
  refine callsIn_of_wp_marks Tryd.func5 rfl trivial ?_ rfl
  simp only [Tryd.ntmps5, List.size_toArray, List.length_cons, List.length_nil, Nat.reduceAdd, Nat.reduceSub, Array.replicate_succ, Array.replicate_zero, List.push_toArray, List.append_toArray, List.nil_append, List.cons_append]
  gi_wp2_with fail
  refine ⟨trivial, ?_⟩
  refine (callsIn_wide.2 (HAw.out _ B0)).mono ?_
  rintro e w1 ⟨rfl, hb1⟩
  clear hX
  have M1 := M0.kept hb1
  have S1 := S0.kept hb1
  have C1 := C0.kept hb1
  have R1 := boxed_upto R0 hb1 R0.lt
  have B1 := bt B0 hb1
  have y1 := hb1.size
  clear M0 S0 C0 R0 hb1
  obtain ⟨m0, m1, m2, m3⟩ := M1.c
  rcases chkC_two W H tl L with hc | hc
  · have HBo := hide (both_ok W H _ _ tl L w1 (HV.out w1 B1).1 hb (HV.out w1 B1).2 hc)
    gi_wp2_with fail
    refine ⟨trivial, ?_⟩
    refine (callsIn_wide.2 HBo.out).mono ?_
    rintro e w2 ⟨p, r, rfl, hW, hR, hb2⟩
    clear m0 m1 m2 m3 M1 HBo hc hb HV
    have S2 := S1.kept hb2
    have C2 := C1.kept hb2
    have R2 := boxed_upto R1 hb2 R1.lt
    have B2 := bt B1 hb2
    have y2 := hb2.size
    clear S1 C1 R1 hb2
    have A3 : Arr ((w2.alloc (.cells #[.bool false, .bool false, .bool false, .bool false, .bool false, .bool false, .bool false, .bool false] 44)).alloc (.cells #[.int .i64 (-1)] 3)) w2.heap.size (fun _ => false) := (Arr.new w2).kept (box1 _ _)
    have L3 : Boxed ((w2.alloc (.cells #[.bool false, .bool false, .bool false, .bool false, .bool false, .bool false, .bool false, .bool false] 44)).alloc (.cells #[.int .i64 (-1)] 3)) (w2.heap.size + 1) 3 (.int .i64 (-1)) := by
      have := Boxed.new (w2.alloc (.cells #[.bool false, .bool false, .bool false, .bool false, .bool false, .bool false, .bool false, .bool false] 44)) 3 (.int .i64 (-1))
      simpa using this
    have B3 : Below w2.heap.size w2 ((w2.alloc (.cells #[.bool false, .bool false, .bool false, .bool false, .bool false, .bool false, .bool false, .bool false] 44)).alloc (.cells #[.int .i64 (-1)] 3)) := box2 _ _ _
    have z3 : ((w2.alloc (.cells #[.bool false, .bool false, .bool false, .bool false, .bool false, .bool false, .bool false, .bool false] 44)).alloc (.cells #[.int .i64 (-1)] 3)).heap.size = w2.heap.size + 2 := by simp
    obtain ⟨V, hVV⟩ : ∃ V, (w2.alloc (.cells #[.bool false, .bool false, .bool false, .bool false, .bool false, .bool false, .bool false, .bool false] 44)).alloc (.cells #[.int .i64 (-1)] 3) = V := ⟨_, rfl⟩
    rw [hVV] at A3 L3 B3 z3
    have S3 := S2.kept B3
    have C3 := C2.kept B3
    have R3 := boxed_upto R2 B3 R2.lt
    obtain ⟨⟨s0, s1⟩, -, -⟩ := id S3
    obtain ⟨⟨c0, c1⟩, -, -⟩ := id C3
    gi_wp2_with fail
    refine ⟨trivial, ?_⟩
    refine (callsIn_wide.2 (caround_any p c s x y V)).mono ?_
    rintro e w4 ⟨rfl, rfl⟩
    have K4 := cap_new V p c s x y
    have B4 : Below V.heap.size V (((V.alloc (.cells #[ptr p] 37)).alloc (.cells #[.int .i64 c, .int .i64 s] 23)).alloc (.cells #[.int .i64 x, .int .i64 y] 25)) := bt (box2 _ _ _) (box1 _ _)
    have z4 : (((V.alloc (.cells #[ptr p] 37)).alloc (.cells #[.int .i64 c, .int .i64 s] 23)).alloc (.cells #[.int .i64 x, .int .i64 y] 25)).heap.size = V.heap.size + 3 := by simp
    clear hVV s0 s1 c0 c1
    gi_wp2_with fail
    obtain ⟨W0, hW0⟩ : ∃ W0, ((V.alloc (.cells #[ptr p] 37)).alloc (.cells #[.int .i64 c, .int .i64 s] 23)).alloc (.cells #[.int .i64 x, .int .i64 y] 25) = W0 := ⟨_, rfl⟩
    rw [hW0] at K4 B4 z4 ⊢
    clear hW0
    obtain ⟨M, hM⟩ : ∃ M, w2.heap.size = M := ⟨_, rfl⟩
    have hV2 : V.heap.size = M + 2 := by omega
    rw [hV2] at K4 z4
    rw [hM] at A3 L3 z3 y2 ⊢
    have A4 := A3.kept B4
    have L4 := boxed_upto L3 B4 L3.lt
    have S4 := S3.kept B4
    have C4 := C3.kept B4
    have R4 := boxed_upto R3 B4 R3.lt
    have B24 : Below w2.heap.size w2 W0 := bt B3 B4
    have BW0 := bt B2 B24
    clear A3 L3 S3 C3 R3 S2 C2 R2
    have HGO2 := HGO.out w2 B2
    have h1M : 1 < M := by have := HGO2.2.1; omega
    refine range_nest (w0 := W0) (by omega) (gf := 40) (lb := #[ptr (M + 2), ptr (M + 2 + 1), ptr (M + 2 + 1 + 1)]) rfl (enters_of Tryd.func40 (by kernel_rfl) rfl)
      (caround_seq (10 - 1) p (M + 2) W H tl (whoF L) c s x y w2 W0 (by omega) hW HGO2.1 HGO2.2 B24 K4) KN.trans
      (fun X l o o' hl' h1 h2 h3 => ⟨belowK_b (w := w2) (Nat.le_refl _) X l _ _ (by omega) h1 h2 h3, World.putObj_heap_other (by omega), World.putObj_heap_other (by omega), World.putObj_heap_other (by omega)⟩)
      (Below.refl _ _) (fun _ => rfl)
      (fun pre X' => (Arr X' M (metF pre) ∧ Boxed X' (M + 1) 3 (.int .i64 (lastF pre))) ∧ Below w2.heap.size W0 X')
      (fun pre X' => ¬ pre <+: LL (stB W H tl (whoF L) c s) x y W H)
      (OwnFrom.and (OwnFrom.and arr_own (Own.from (boxed_own _ _ _) _)) (ownFrom_below (by omega) (by omega)))
      (ownFrom_pure _ _)
      ⟨⟨A4, L4⟩, Below.refl _ _⟩
      (fun q a' X' => ∃ Bx, M + 2 + 1 + 1 < Bx ∧ Two X' Bx (x + dX q.val) (y + dY q.val) ∧ a' = { tmps := #[mp W H (.slice a1 tl.length cap1) (.slice a2 L.length cap2), shv c s, cel x y, ptr w.heap.size, ptr (w.heap.size + 1), ptr (w.heap.size + 1 + 1), ptr (w.heap.size + 1 + 1 + 1), ptr p, ptr r, .bool true, ptr M, ptr (M + 1), .int .i64 (q.val : Int), ptr Bx, undef, undef, .bool true, .bool false, .tuple #[ptr p, ptr r, .bool true], mp W H (.slice a1 tl.length cap1) (.slice a2 L.length cap2), .tuple #[ptr p, ptr r, .bool true], ptr p, ptr r, .bool true, .bool true, .bool false, undef, arrV (fun _ => false), ptr p, shv c s, cel x y, .func (.func 40) #[] #[ptr (M + 2), ptr (M + 2 + 1), ptr (M + 2 + 1 + 1)], .int .i64 (q.val : Int), cel (x + dX q.val) (y + dY q.val), undef, undef, undef, undef, undef, undef, undef, undef, undef, undef, undef, undef, undef, undef, undef, undef, undef, undef, undef, undef, undef, undef, undef, undef, undef, undef, undef, undef, undef, undef, undef, undef, undef, undef, undef, undef, undef, undef, undef, undef, undef, undef, undef, undef, undef, undef, undef, undef, undef, undef, undef, undef, undef, undef, undef, undef, undef, undef, undef, undef], defers := [] })
      (fun q a' _ X Y row hs hg hr => by obtain ⟨Bx, e1, e2, e3⟩ := hs; exact ⟨Bx, e1, e2.own hg (fun r e => (hr r e).2), e3⟩)
      ?assign ?body ?done ?stop
    case assign =>
      rintro l pre q X' K ⟨⟨hA, hL⟩, hB⟩ hK
      have hsB := hB.size
      gi_wp2
      exact hK _ _ (Keep.of_below (box1 _ _)) (KN.below (box1 _ _) (by omega) (by omega)) ⟨⟨hA.kept (box1 _ _), hL.alloc _⟩, hB.alloc (by omega) _⟩ ⟨X'.heap.size, by omega, Two.newAt rfl, rfl⟩
    case body =>
      rintro l pre q a' X' hl' ⟨⟨hA, hL⟩, hB⟩ ⟨Bx, hBx, bX, rfl⟩ hlt
      have hsB := hB.size
      have bC := C4.upto hB (by omega)
      have bR := boxed_upto R4 hB (by omega)
      have hgt : pre ++ [q] <+: LL (stB W H tl (whoF L) c s) x y W H → lastF pre < q.val := next_gt
      have hdr : pre ++ [q] <+: LL (stB W H tl (whoF L) c s) x y W H → dirN x y (x + dX q.val) (y + dY q.val) = q.val := fun h => dirN_self q.isLt (lg_sB (LL_mem (h.subset (by simp))))
      have hms := metF_snoc pre q
      have hls := lastF_snoc pre q
      obtain ⟨k, hk⟩ := q
      simp only at hgt hdr hms hls bX
      have hk0 : (0 : Int) ≤ (k : Int) := by omega
      have hk8 : (k : Int) < 8 := by omega
      have hk7 : ¬ (7 : Int) < (k : Int) := by omega
      obtain ⟨la, hla⟩ : ∃ la, lastF pre = la := ⟨_, rfl⟩
      rw [hla] at hL hgt
      have cL := hL.cell
      have fL := hL.frozen
      have cR := bR.cell
      have fR := bR.frozen
      have HGT := hide hgt
      have HDR := hide hdr
      have HMS := hide hms
      have HLS := hide hls
      clear hgt hdr hms hls hla
      by_cases h1 : (k : Int) ≤ la
      · gi_wp2_with fail
        refine ⟨trivial, ?_⟩
        gi_wp2_with fail
        exact ⟨Keep.set _ _ (by simp; omega), fun hp => by have := HGT.out hp; omega⟩
      · obtain ⟨⟨c0, c1⟩, -, -⟩ := id bC
        obtain ⟨⟨x0, x1⟩, -, -⟩ := id bX
        by_cases h2 : dirN x y (x + dX k) (y + dY k) = k
        · have HDD := hide (refdir_is X' h2)
          have hne : ((k : Int) != (k : Int)) = false := by simp
          clear h2
          gi_wp2_with fail
          refine ⟨trivial, ?_⟩
          refine (CallsIn.inRound l (callsIn_wide.2 HDD.out)).mono ?_
          rintro e Y ⟨rfl, hbY⟩
          have Av := hA.kept hbY
          have cA := Av.c hk
          have fA := Av.f k
          have A5 := Av.set hk true
          have L5 := boxed_upto hL hbY hL.lt
          have cL5 := L5.cell
          have fL5 := L5.frozen
          have hsY := hbY.size
          have q1 : Keep W0.heap.size X' ((Y.setCell ⟨M, k, none⟩ (.bool true)).setCell ⟨M + 1, 0, none⟩ (.int .i64 (k : Int))) := ((Keep.of_below hbY).trans (Keep.set (B := W0.heap.size) Y (p := ⟨M, k, none⟩) (.bool true) (by show M < _; omega))).trans (Keep.set (B := W0.heap.size) (Y.setCell ⟨M, k, none⟩ (.bool true)) (p := ⟨M + 1, 0, none⟩) (.int .i64 (k : Int)) (by show M + 1 < _; omega))
          have q2 : KN w2.heap.size (M + 2) X' ((Y.setCell ⟨M, k, none⟩ (.bool true)).setCell ⟨M + 1, 0, none⟩ (.int .i64 (k : Int))) := KN.set (p := ⟨M + 1, 0, none⟩) _ (KN.set (p := ⟨M, k, none⟩) _ (KN.below (h := M + 2) (N := w2.heap.size) hbY (by omega) (by omega)) (by show _ ≤ M; omega) (by show M < _; omega)) (by show _ ≤ M + 1; omega) (by show M + 1 < _; omega)
          have q3 : Arr ((Y.setCell ⟨M, k, none⟩ (.bool true)).setCell ⟨M + 1, 0, none⟩ (.int .i64 (k : Int))) M (metF (pre ++ [⟨k, hk⟩])) := by
            rw [HMS.out]
            exact Arr.other (p := ⟨M + 1, 0, none⟩) _ A5 (by show M ≠ M + 1; omega)
          have q4 : Boxed ((Y.setCell ⟨M, k, none⟩ (.bool true)).setCell ⟨M + 1, 0, none⟩ (.int .i64 (k : Int))) (M + 1) 3 (.int .i64 (lastF (pre ++ [⟨k, hk⟩]))) := by
            rw [HLS.out]
            exact (boxed_upto2 (p := ⟨M, k, none⟩) (v := .bool true) L5 (show M + 1 ≠ M by omega)).set _
          have q5 : Below w2.heap.size W0 ((Y.setCell ⟨M, k, none⟩ (.bool true)).setCell ⟨M + 1, 0, none⟩ (.int .i64 (k : Int))) := ((hB.trans (hbY.mono (by omega))).setCell (p := ⟨M, k, none⟩) (by show _ ≤ M; omega) _).setCell (p := ⟨M + 1, 0, none⟩) (by show _ ≤ M + 1; omega) _
          have Q := hide (And.intro q1 (And.intro q2 (And.intro (And.intro q3 q4) q5)))
          clear cL fL cR fR c0 c1 x0 x1 q1 q2 q3 q4 q5
          gi_wp2_with fail
          exact Q.out
        · obtain ⟨d, hd⟩ : ∃ d, dirN x y (x + dX k) (y + dY k) = d := ⟨_, rfl⟩
          have HDD := hide (refdir_is X' hd)
          have hne : (d != (k : Int)) = true := by rw [← hd]; simp [h2]
          have H2 := hide h2
          clear hd h2
          gi_wp2_with fail
          refine ⟨trivial, ?_⟩
          refine (CallsIn.inRound l (callsIn_wide.2 HDD.out)).mono ?_
          rintro e Y ⟨rfl, hbY⟩
          have R5 := boxed_upto bR hbY bR.lt
          have cR5 := R5.cell
          have fR5 := R5.frozen
          clear cL fL cR fR c0 c1 x0 x1
          gi_wp2_with fail
          exact ⟨(Keep.of_below hbY).trans (Keep.set _ _ (by simp; omega)), fun hp => H2.out (HDR.out hp)⟩
    case done =>
      rintro D xs X' hD rfl ⟨⟨hA, hL⟩, hB⟩ hK
      have hsB := hB.size
      have hBX : Below w.heap.size w X' := BW0.trans (hB.mono (by omega))
      have bS := S4.upto hB (by omega)
      have bC := C4.upto hB (by omega)
      have bR := boxed_upto R4 hB (by omega)
      have hM8 : ∀ k, k < 8 → metF (LL (stB W H tl (whoF L) c s) x y W H) k = lg (stB W H tl (whoF L) c s) x y (k : Int) := fun k hk => metF_LL hk
      have aX : Arr X' M (fun k => lg (stB W H tl (whoF L) c s) x y (k : Int)) := hA.congr hM8
      have HSt : Hid (∀ wx, Below w2.heap.size w2 wx → ∀ d b, lg (stB W H tl (whoF L) c s) x y d = b → Calls Tryd.prog 21 #[ptr p, shv c s, cel x y, .int .i64 d] wx fun e w' => e = .returned (.bool b) ∧ Below wx.heap.size wx w') := hide fun wx hx d b hd => by
        have q := HGO.out wx (bt B2 hx)
        exact steps_is (hW.kept hx) q.1 q.2 hd
      have HRt : Hid (∀ wx, Below w2.heap.size w2 wx → ∀ d b, lg (stB W H tl (whoF L) c s) x y d = b → Calls Tryd.prog 20 #[ptr r, shv c s, cel x y, .int .i64 d] wx fun e w' => e = .returned (.bool b) ∧ Below wx.heap.size wx w') := hide fun wx hx d b hd => by
        subst hd
        exact refsteps_any r W H tl L c s x y d wx (hR.kept hx)
      have h2X : Below w2.heap.size w2 X' := B24.trans (hB.mono (Nat.le_refl _))
      clear hM8 hA hL K4 A4 L4 S4 C4 R4 hW hR
      gi_wp2_with fail
      gi_loopw [14] (fun i wr => ∃ j : Nat, j ≤ 10 ∧ i = .int .i64 ((j : Int) - 1) ∧ ∃ m : Lat X', wr = m.w) (fun i _ => 10 - (intOf i + 1).toNat)
      case atStart => exact ⟨0, Nat.zero_le _, rfl, ⟨X', Below.refl _ _⟩, rfl⟩
      case round =>
        obtain ⟨j, hj, rfl, m, rfl⟩ := hrel
        by_cases hlt : j < 10
        · have hle : (j : Int) - 1 ≤ 8 := by omega
          obtain ⟨d, hd⟩ : ∃ d, (j : Int) - 1 = d := ⟨_, rfl⟩
          rw [hd] at hle ⊢
          have hd1 : -1 ≤ d ∧ d ≤ 8 := by omega
          obtain ⟨⟨s0, s1⟩, -, -⟩ := bS.kept m.h
          obtain ⟨⟨c0, c1⟩, -, -⟩ := bC.kept m.h
          cases hb : lg (stB W H tl (whoF L) c s) x y d
          · have HB := hide hb
            clear hb
            by_cases h0 : 0 ≤ d
            · by_cases h8 : d < 8
              · obtain ⟨k, rfl⟩ : ∃ k : Nat, d = (k : Int) := ⟨d.toNat, by omega⟩
                have hk8 : k < 8 := by omega
                gi_wp2_with fail
                refine ⟨trivial, ?_⟩
                refine (callsIn_wide.2 (HRt.out _ (bt h2X m.h) _ _ HB.out)).mono ?_
                rintro e v1 ⟨rfl, hb1⟩
                obtain ⟨⟨s0, s1⟩, -, -⟩ := (bS.kept m.h).kept hb1
                obtain ⟨⟨c0, c1⟩, -, -⟩ := (bC.kept m.h).kept hb1
                gi_wp2_with fail
                refine ⟨trivial, ?_⟩
                refine (callsIn_wide.2 (HSt.out _ (bt h2X (bt m.h hb1)) _ _ HB.out)).mono ?_
                rintro e v2 ⟨rfl, hb2⟩
                have hm2 := bt m.h (bt hb1 hb2)
                have a2 := aX.kept hm2
                clear s0 s1 c0 c1 hb1 hb2
                have ck := a2.c hk8
                simp only [HB.out] at ck
                gi_wp2_with fail
                go_roundw
                case rel => exact ⟨j + 1, by omega, by go_num, ⟨v2, hm2⟩, rfl⟩
                case measure => simp [intOf]; omega
              · gi_wp2_with fail
                refine ⟨trivial, ?_⟩
                refine (callsIn_wide.2 (HRt.out _ (bt h2X m.h) _ _ HB.out)).mono ?_
                rintro e v1 ⟨rfl, hb1⟩
                obtain ⟨⟨s0, s1⟩, -, -⟩ := (bS.kept m.h).kept hb1
                obtain ⟨⟨c0, c1⟩, -, -⟩ := (bC.kept m.h).kept hb1
                gi_wp2_with fail
                refine ⟨trivial, ?_⟩
                refine (callsIn_wide.2 (HSt.out _ (bt h2X (bt m.h hb1)) _ _ HB.out)).mono ?_
                rintro e v2 ⟨rfl, hb2⟩
                have hm2 := bt m.h (bt hb1 hb2)
                have a2 := aX.kept hm2
                clear s0 s1 c0 c1 hb1 hb2
                gi_wp2_with fail
                go_roundw
                case rel => exact ⟨j + 1, by omega, by go_num, ⟨v2, hm2⟩, rfl⟩
                case measure => simp [intOf]; omega
            · gi_wp2_with fail
              refine ⟨trivial, ?_⟩
              refine (callsIn_wide.2 (HRt.out _ (bt h2X m.h) _ _ HB.out)).mono ?_
              rintro e v1 ⟨rfl, hb1⟩
              obtain ⟨⟨s0, s1⟩, -, -⟩ := (bS.kept m.h).kept hb1
              obtain ⟨⟨c0, c1⟩, -, -⟩ := (bC.kept m.h).kept hb1
              gi_wp2_with fail
              refine ⟨trivial, ?_⟩
              refine (callsIn_wide.2 (HSt.out _ (bt h2X (bt m.h hb1)) _ _ HB.out)).mono ?_
              rintro e v2 ⟨rfl, hb2⟩
              have hm2 := bt m.h (bt hb1 hb2)
              have a2 := aX.kept hm2
              clear s0 s1 c0 c1 hb1 hb2
              gi_wp2_with fail
              go_roundw
              case rel => exact ⟨j + 1, by omega, by go_num, ⟨v2, hm2⟩, rfl⟩
              case measure => simp [intOf]; omega
          · have HB := hide hb
            have hs := lg_sB hb
            have hdd := (isD_iff d).1 (by simp only [sB, Bool.and_eq_true] at hs; exact hs.1.1)
            clear hb hs
            obtain ⟨k, rfl⟩ : ∃ k : Nat, d = (k : Int) := ⟨d.toNat, by omega⟩
            have hk8 : k < 8 := by omega
            gi_wp2_with fail
            refine ⟨trivial, ?_⟩
            refine (callsIn_wide.2 (HRt.out _ (bt h2X m.h) _ _ HB.out)).mono ?_
            rintro e v1 ⟨rfl, hb1⟩
            obtain ⟨⟨s0, s1⟩, -, -⟩ := (bS.kept m.h).kept hb1
            obtain ⟨⟨c0, c1⟩, -, -⟩ := (bC.kept m.h).kept hb1
            gi_wp2_with fail
            refine ⟨trivial, ?_⟩
            refine (callsIn_wide.2 (HSt.out _ (bt h2X (bt m.h hb1)) _ _ HB.out)).mono ?_
            rintro e v2 ⟨rfl, hb2⟩
            have hm2 := bt m.h (bt hb1 hb2)
            have a2 := aX.kept hm2
            clear s0 s1 c0 c1 hb1 hb2
            have ck := a2.c hk8
            simp only [HB.out] at ck
            gi_wp2_with fail
            go_roundw
            case rel => exact ⟨j + 1, by omega, by go_num, ⟨v2, hm2⟩, rfl⟩
            case measure => simp [intOf]; omega
        · obtain rfl : j = 10 := by omega
          have hle : ¬ ((10 : Nat) : Int) - 1 ≤ 8 := by omega
          gi_wp2_with fail
          refine ⟨trivial, ?_⟩
          refine (callsIn_wide.2 (HAw.out _ (bt hBX m.h))).mono ?_
          rintro e v1 ⟨rfl, hb1⟩
          have hm1 := bt m.h hb1
          have R6 := boxed_upto bR hm1 bR.lt
          have cR := R6.cell
          have fR := R6.frozen
          have hK1 : v1.heap[D]? = some (.deferred (some [])) := (hm1.block D (Array.getElem?_eq_some_iff.1 hK).1).trans hK
          gi_wp2_with fail
          have hK3 := (KeepsOthers.setCell v1 ⟨w.heap.size + 1 + 1 + 1, 0, none⟩ (.bool true)).same D _ hK1 rfl
          refine ⟨by simp, .inl ⟨_, _, rfl, run_takeDeferred hK3, ?_⟩⟩
          have hc5 := cell_kept (R6.set (.bool true)).cell (grownBy_putObj' _ D (.deferred none)) (fun r e => by cases e; exact ⟨_, hK3, rfl⟩)
          refine ⟨.bool true, ?_, rfl, ((bt hBX hm1).setCell (p := ⟨w.heap.size + 1 + 1 + 1, 0, none⟩) (by show _ ≤ w.heap.size + 1 + 1 + 1; omega) _).trans (belowK_b (w := w) (Nat.le_refl _) _ D _ _ (by omega) hK3 rfl rfl)⟩
          simp [results, Tryd.f5, go_sem, hc5]
    case stop =>
      rintro D pre X' hD hpre hx hK
      exact absurd hpre hx
  · have HBo := hide (both_no W H _ _ tl L w1 (HV.out w1 B1).1 hb (HV.out w1 B1).2 hc)
    gi_wp2_with fail
    refine ⟨trivial, ?_⟩
    refine (callsIn_wide.2 HBo.out).mono ?_
    rintro e w2 ⟨rfl, hb2⟩
    clear m0 m1 m2 m3 M1 HBo hc hb HV S1 C1
    have R2 := boxed_upto R1 hb2 R1.lt
    have B2 := bt B1 hb2
    clear R1 hb2
    gi_wp2_with fail
    refine ⟨trivial, ?_⟩
    refine (callsIn_wide.2 (HAw.out _ B2)).mono ?_
    rintro e w3 ⟨rfl, hb3⟩
    have R3 := boxed_upto R2 hb3 R2.lt
    have cR := R3.cell
    have fR := R3.frozen
    gi_wp2_with fail
    exact ⟨.bool true, by simp [results, Tryd.f5, go_sem, cR], rfl, (bt B2 hb3).setCell (p := ⟨w.heap.size + 1 + 1 + 1, 0, none⟩) (by simp; omega) _⟩
end Go.Proofs.YthacppifndakjaaDoor
namespace Go.Proofs.YthacppifndakjaaDoor
open Go.RowKit Go.Shelf
set_option linter.unusedVariables false
attribute [local go_sem] Oper.semAt_some
theorem bkN_lt {k : Nat} (hk : k < 8) : bkN k < 8 := by
  match k, hk with
  | 0, _ | 1, _ | 2, _ | 3, _ | 4, _ | 5, _ | 6, _ | 7, _ => decide
theorem bk_off {k : Nat} (hk : k < 8) : dX (bkN k) = - dX k ∧ dY (bkN k) = - dY k ∧ (4 ≤ bkN k ↔ 4 ≤ k) := by
  match k, hk with
  | 0, _ | 1, _ | 2, _ | 3, _ | 4, _ | 5, _ | 6, _ | 7, _ => decide
theorem bk_is {k : Nat} (hk : k < 8) : bk (k : Int) = (bkN k : Nat) := by
  have : isD (k : Int) = true := (isD_iff _).2 (by omega)
  simp [bk, this]
theorem sB_back {x y : Int} {k : Nat} (hk : k < 8) (h : sB x y (k : Int) = true) : sB (x + dX k) (y + dY k) (bkN k : Nat) = true := by
  obtain ⟨e1, e2, -⟩ := bk_off hk
  have hb := bkN_lt hk
  have hd : isD ((bkN k : Nat) : Int) = true := (isD_iff _).2 (by omega)
  simp only [sB, Bool.and_eq_true, Int.toNat_natCast] at h ⊢
  obtain ⟨⟨h1, h2⟩, h3⟩ := h
  refine ⟨⟨hd, h3⟩, ?_⟩
  rw [e1, e2, show x + dX k + -dX k = x by omega, show y + dY k + -dY k = y by omega]
  exact h2
theorem lg_back {S : Int → Int → Bool} {x y : Int} {k : Nat} (hk : k < 8) (h : lg S x y (k : Int) = true) : lg S (x + dX k) (y + dY k) (bkN k : Nat) = true := by
  obtain ⟨e1, e2, e4⟩ := bk_off hk
  have hs := lg_sB h
  have hsb := sB_back hk hs
  have p1 : x + dX k + -dX k = x := by omega
  have p2 : y + dY k + -dY k = y := by omega
  simp only [lg, hs, sX_yes hs, sY_yes hs, Int.toNat_natCast, Bool.true_and, Bool.and_eq_true] at h
  simp only [lg, hsb, sX_yes hsb, sY_yes hsb, Int.toNat_natCast, Bool.true_and, Bool.and_eq_true, e1, e2, p1, p2]
  obtain ⟨h1, h2, h3⟩ := h
  refine ⟨h2, h1, ?_⟩
  by_cases h4 : 4 ≤ k
  · have hoc : oc (k : Int) = true := by simp [oc]; omega
    have hob : oc ((bkN k : Nat) : Int) = true := by have := e4.2 h4; simp [oc]; omega
    have hsi : siB x y (k : Int) = true := by simp [siB, hs, hoc]
    have hsj : siB (x + dX k) (y + dY k) ((bkN k : Nat) : Int) = true := by simp [siB, hsb, hob]
    simp only [hsi, siX, siY, si0, if_true, Bool.not_true, Bool.false_or, Int.toNat_natCast, Bool.and_eq_true] at h3
    simp only [hsj, siX, siY, si0, if_true, Bool.not_true, Bool.false_or, Int.toNat_natCast, Bool.and_eq_true, e1, e2, p1, p2]
    exact ⟨h3.2, h3.1⟩
  · have hob : oc ((bkN k : Nat) : Int) = false := by simp [oc]; omega
    have hsj : siB (x + dX k) (y + dY k) ((bkN k : Nat) : Int) = false := by simp [siB, hob]
    simp [hsj]
theorem legV_back {S : Int → Int → Bool} {x y : Int} {k : Nat} (hk : k < 8) (h : lg S x y (k : Int) = true) : legV S x y [(x + dX k, y + dY k), (x, y)] = true := by
  have hs := lg_sB h
  have hsb := sB_back hk hs
  obtain ⟨e1, e2, e4⟩ := bk_off hk
  have d1 := dirN_self hk hs
  have d2 := dirN_self (bkN_lt hk) hsb
  rw [e1, e2, show x + dX k + -dX k = x by omega, show y + dY k + -dY k = y by omega] at d2
  have hl := lg_back hk h
  have hS : S x y = true := by simp only [lg, Bool.and_eq_true] at h; exact h.2.1
  simp only [legV, legF, d1, d2, h, hl, hS, Bool.and_self]
theorem ceR_two (w : World) (a b c d : Int) : CeR (w.alloc (.cells #[.int .i64 a, .int .i64 b, .int .i64 c, .int .i64 d] 25)) (.slice (some ⟨w.heap.size, 0, none⟩) 2 2) [(a, b), (c, d)] :=
  ceR_own ⟨rfl, .inr ⟨w.heap.size, 2, _, rfl, Nat.zero_le _, heap_alloc_new w _, Nat.le_refl _, by decide, rfl, rfl⟩⟩
theorem may_less {x y s n : Int} (h : may x y s s = true) (h1 : 1 ≤ n) (h2 : n ≤ s) : may x y n n = true := by
  rw [may_iff] at h ⊢
  omega
theorem st_less {W H : Int} {tl : List Nat} {f : Int → Int → Option Int} {c s x y n : Int} (h : stB W H tl f c s x y = true) (h1 : 1 ≤ n) (h2 : n ≤ s) : stB W H tl f c n x y = true := by
  have hh := h
  simp only [stB, stU, wi, Bool.and_eq_true] at h
  obtain ⟨⟨hm, hA, hB⟩, hC⟩ := h
  cases hb : fB c s x y
  · rw [fi_no hb] at hm
    have := ((may_iff _ _ _ _).1 hm).2.1
    rw [fi_no hb] at this
    omega
  · rw [fi_yes hb, fi_yes hb, fi_yes hb] at hm hB
    rw [fi_yes hb, fi_yes hb] at hA
    rw [fi_yes hb, fi_yes hb, fi_yes hb] at hC
    have hb' := hb
    simp only [fB, Bool.and_eq_true] at hb
    have hsh := (shB_iff _ _).1 hb.1
    have hm2 := may_less hm h1 h2
    have hn : fB c n x y = true := by
      simp only [fB, Bool.and_eq_true]
      exact ⟨(shB_iff _ _).2 ⟨hsh.1, by omega, by omega⟩, hm2⟩
    have a1 := (has_iff _ _ _ _ _ _).1 hA
    have a2 := (has_iff _ _ _ _ _ _).1 hB
    simp only [stB, stU, wi, fi_yes hn, Bool.and_eq_true]
    refine ⟨⟨hm2, hA, (has_iff _ _ _ _ _ _).2 ⟨a1.1, by omega, by omega, by omega, by omega⟩⟩, ?_⟩
    rw [List.all_eq_true] at hC ⊢
    intro q hq
    rw [mem_allC, has_iff] at hq
    exact hC q ((mem_allC _ _ _ _ _).2 ((has_iff _ _ _ _ _ _).2 ⟨hm, by omega, by omega, by omega, by omega⟩))
set_option maxRecDepth 100000 in
set_option maxHeartbeats 8000000 in
theorem back_walk (W H : Int) (tv bv : Value) (tl : List Nat) (L : List Bd) (c s x y : Int) (w : World) (hv : TlR w tv tl) (hb : ∀ n ∈ tl, n < 256) (hl : BdR w bv L) (hg : Grnd w) (ho : Offs w) :
    Calls Tryd.prog 7 #[mp W H tv bv, shv c s, .agg #[.int .i64 x, .int .i64 y]] w fun e w' => e = .returned (.bool true) ∧ Below w.heap.size w w' := by
  have B0 := wst_below w W H tv bv c s x y
  have z0 := wst_size w W H tv bv c s x y
  have M0 := wst_map w W H tv bv c s x y
  have S0 := wst_shape w W H tv bv c s x y
  have C0 := wst_cell w W H tv bv c s x y
  have R0 := wst_res w W H tv bv c s x y
  unfold WSt at B0 z0 M0 S0 C0 R0
  obtain ⟨X, hX⟩ : ∃ X, (((w.alloc (.cells #[.int .i64 W, .int .i64 H, tv, bv] 36)).alloc (.cells #[.int .i64 c, .int .i64 s] 23)).alloc (.cells #[.int .i64 x, .int .i64 y] 25)).alloc (.cells #[.bool false] 4) = X := ⟨_, rfl⟩
  rw [hX] at B0 z0 M0 S0 C0 R0
  have HGO : Hid (∀ wx, Below w.heap.size w wx → Grnd wx ∧ Offs wx) := hide fun wx hx => ⟨hg.kept hx, ho.kept hx⟩
  have HAw : Hid (∀ wx, Below w.heap.size w wx → Calls Tryd.prog 14 #[] wx fun e w' => e = .returned (.bool true) ∧ Below wx.heap.size wx w') := hide fun wx hx => awake_any wx (HGO.out wx hx).1 (HGO.out wx hx).2
  have HV : Hid (∀ wx, Below w.heap.size w wx → TlR wx tv tl ∧ BdR wx bv L) := hide fun wx hx => ⟨hv.kept hx, hl.kept hx⟩
  have hvf := hv
  have hlf := hl
  obtain ⟨a1, cap1, rfl, -⟩ := hvf
  obtain ⟨a2, cap2, rfl, -⟩ := hlf
  clear hv hl hg ho
  refine (callsIn_wide (n := 10)).1 ?_
  refine callsIn_of_wp_marks Tryd.func7 rfl trivial ?_ rfl
  simp only [Tryd.ntmps7, List.size_toArray, List.length_cons, List.length_nil, Nat.reduceAdd, Nat.reduceSub, Array.replicate_succ, Array.replicate_zero, List.push_toArray, List.append_toArray, List.nil_append, List.cons_append]
  gi_wp2_with fail
  refine ⟨trivial, ?_⟩
  refine (callsIn_wide.2 (HAw.out _ B0)).mono ?_
  rintro e w1 ⟨rfl, hb1⟩
  clear hX
  have M1 := M0.kept hb1
  have S1 := S0.kept hb1
  have C1 := C0.kept hb1
  have R1 := boxed_upto R0 hb1 R0.lt
  have B1 := bt B0 hb1
  have y1 := hb1.size
  clear M0 S0 C0 R0 hb1
  obtain ⟨m0, m1, m2, m3⟩ := M1.c
  rcases chkC_two W H tl L with hc | hc
  · have HBo := hide (both_ok W H _ _ tl L w1 (HV.out w1 B1).1 hb (HV.out w1 B1).2 hc)
    gi_wp2_with fail
    refine ⟨trivial, ?_⟩
    refine (callsIn_wide.2 HBo.out).mono ?_
    rintro e w2 ⟨p, r, rfl, hW, hR, hb2⟩
    clear m0 m1 m2 m3 M1 HBo hc hb HV
    have S2 := S1.kept hb2
    have C2 := C1.kept hb2
    have R2 := boxed_upto R1 hb2 R1.lt
    have B2 := bt B1 hb2
    have y2 := hb2.size
    clear S1 C1 R1 hb2
    have P3 : Boxed (w2.alloc (.cells #[ptr p] 37)) w2.heap.size 37 (ptr p) := Boxed.new w2 37 (ptr p)
    have B3 : Below w2.heap.size w2 (w2.alloc (.cells #[ptr p] 37)) := box1 _ _
    have z3 : (w2.alloc (.cells #[ptr p] 37)).heap.size = w2.heap.size + 1 := by simp
    obtain ⟨V, hVV⟩ : ∃ V, w2.alloc (.cells #[ptr p] 37) = V := ⟨_, rfl⟩
    rw [hVV] at P3 B3 z3
    have S3 := S2.kept B3
    have C3 := C2.kept B3
    have R3 := boxed_upto R2 B3 R2.lt
    obtain ⟨⟨s0, s1⟩, -, -⟩ := id S3
    obtain ⟨⟨c0, c1⟩, -, -⟩ := id C3
    have pc := P3.cell
    gi_wp2_with fail
    refine ⟨trivial, ?_⟩
    refine (callsIn_wide.2 (caround_any p c s x y V)).mono ?_
    rintro e w4 ⟨rfl, rfl⟩
    have K4 := cap_new V p c s x y
    have B4 : Below V.heap.size V (((V.alloc (.cells #[ptr p] 37)).alloc (.cells #[.int .i64 c, .int .i64 s] 23)).alloc (.cells #[.int .i64 x, .int .i64 y] 25)) := bt (box2 _ _ _) (box1 _ _)
    have z4 : (((V.alloc (.cells #[ptr p] 37)).alloc (.cells #[.int .i64 c, .int .i64 s] 23)).alloc (.cells #[.int .i64 x, .int .i64 y] 25)).heap.size = V.heap.size + 3 := by simp
    clear hVV s0 s1 c0 c1 pc
    gi_wp2_with fail
    obtain ⟨W0, hW0⟩ : ∃ W0, ((V.alloc (.cells #[ptr p] 37)).alloc (.cells #[.int .i64 c, .int .i64 s] 23)).alloc (.cells #[.int .i64 x, .int .i64 y] 25) = W0 := ⟨_, rfl⟩
    rw [hW0] at K4 B4 z4 ⊢
    clear hW0
    obtain ⟨M, hM⟩ : ∃ M, w2.heap.size = M := ⟨_, rfl⟩
    have hV2 : V.heap.size = M + 1 := by omega
    rw [hV2] at K4 z4
    rw [hM] at P3 z3 y2 ⊢
    have P4 := boxed_upto P3 B4 P3.lt
    have S4 := S3.kept B4
    have C4 := C3.kept B4
    have R4 := boxed_upto R3 B4 R3.lt
    have B24 : Below w2.heap.size w2 W0 := bt B3 B4
    have BW0 := bt B2 B24
    clear P3 S3 C3 R3 S2 C2 R2
    have HGO2 := HGO.out w2 B2
    have HQ : Hid (∀ wx, Below w2.heap.size w2 wx → Wl wx p W H tl (whoF L) ∧ Grnd wx ∧ Offs wx) := hide fun wx hx => ⟨hW.kept hx, HGO.out wx (bt B2 hx)⟩
    refine range_nest (w0 := W0) (by omega) (gf := 40) (lb := #[ptr (M + 1), ptr (M + 1 + 1), ptr (M + 1 + 1 + 1)]) rfl (enters_of Tryd.func40 (by kernel_rfl) rfl)
      (caround_seq (10 - 1) p (M + 1) W H tl (whoF L) c s x y w2 W0 (by omega) hW HGO2.1 HGO2.2 B24 K4) KN.trans
      (fun X l o o' hl' h1 h2 h3 => ⟨belowK_b (w := w2) (Nat.le_refl _) X l _ _ (by omega) h1 h2 h3, World.putObj_heap_other (by omega), World.putObj_heap_other (by omega), World.putObj_heap_other (by omega)⟩)
      (Below.refl _ _) (fun _ => rfl)
      (fun pre X' => Below W0.heap.size W0 X')
      (fun pre X' => ¬ pre <+: LL (stB W H tl (whoF L) c s) x y W H)
      (ownFrom_below (Nat.le_refl _) (Nat.le_refl _))
      (ownFrom_pure _ _)
      (Below.refl _ _)
      (fun q a' X' => ∃ Bx, M + 1 + 1 + 1 < Bx ∧ Two X' Bx (x + dX q.val) (y + dY q.val) ∧ a' = { tmps := #[mp W H (.slice a1 tl.length cap1) (.slice a2 L.length cap2), shv c s, cel x y, ptr w.heap.size, ptr (w.heap.size + 1), ptr (w.heap.size + 1 + 1), ptr (w.heap.size + 1 + 1 + 1), ptr M, ptr r, .bool true, .int .i64 (q.val : Int), ptr Bx, undef, .bool true, .bool false, .tuple #[ptr p, ptr r, .bool true], mp W H (.slice a1 tl.length cap1) (.slice a2 L.length cap2), .tuple #[ptr p, ptr r, .bool true], ptr p, ptr r, .bool true, .bool true, .bool false, undef, ptr p, shv c s, cel x y, .func (.func 40) #[] #[ptr (M + 1), ptr (M + 1 + 1), ptr (M + 1 + 1 + 1)], .int .i64 (q.val : Int), cel (x + dX q.val) (y + dY q.val), undef, undef, undef, undef, undef, undef, undef, undef, undef, undef, undef, undef, undef, undef, undef, undef, undef, undef, undef, undef, undef, undef, undef, undef, undef, undef, undef, undef, undef, undef, undef, undef, undef, undef, undef, undef, undef, undef, undef, undef, undef, undef], defers := [] })
      (fun q a' _ X Y row hs hg hr => by obtain ⟨Bx, e1, e2, e3⟩ := hs; exact ⟨Bx, e1, e2.own hg (fun r e => (hr r e).2), e3⟩)
      ?assign ?body ?done ?stop
    case assign =>
      rintro l pre q X' K hB hK
      have hsB := hB.size
      gi_wp2
      exact hK _ _ (Keep.of_below (box1 _ _)) (KN.below (box1 _ _) (by omega) (by omega)) (hB.alloc (by omega) _) ⟨X'.heap.size, by omega, Two.newAt rfl, rfl⟩
    case body =>
      rintro l pre q a' X' hl' hB ⟨Bx, hBx, bX, rfl⟩ hlt
      have hsB := hB.size
      have bP := boxed_upto P4 hB (by omega)
      have bS := S4.upto hB (by omega)
      have bC := C4.upto hB (by omega)
      have bR := boxed_upto R4 hB (by omega)
      have h2X : Below w2.heap.size w2 X' := B24.trans (hB.mono (by omega))
      have hyes : pre ++ [q] <+: LL (stB W H tl (whoF L) c s) x y W H → lg (stB W H tl (whoF L) c s) x y (q.val : Int) = true := fun h => LL_mem (h.subset (by simp))
      obtain ⟨k, hk⟩ := q
      simp only at hyes bX
      obtain ⟨b1, hb1⟩ : ∃ b1, lg (stB W H tl (whoF L) c s) (x + dX k) (y + dY k) (bkN k : Nat) = b1 := ⟨_, rfl⟩
      obtain ⟨b2, hb2⟩ : ∃ b2, legV (stB W H tl (whoF L) c s) x y [(x + dX k, y + dY k), (x, y)] = b2 := ⟨_, rfl⟩
      have HN : Hid (b1 = false ∨ b2 = false → ¬ pre ++ [⟨k, hk⟩] <+: LL (stB W H tl (whoF L) c s) x y W H) := hide fun h hp => by
        have hl := hyes hp
        have e1 := lg_back hk hl
        have e2 := legV_back hk hl
        rw [hb1] at e1
        rw [hb2] at e2
        rcases h with h | h
        · rw [h] at e1; cases e1
        · rw [h] at e2; cases e2
      have HBk : Hid (∀ wx, Calls Tryd.prog 26 #[.int .i64 (k : Int)] wx fun e w' => e = .returned (.int .i64 (bkN k : Nat)) ∧ w' = wx) := hide fun wx => by
        have := refback_any (k : Int) wx
        rwa [bk_is hk] at this
      have HSt : Hid (∀ wx, Below X'.heap.size X' wx → Calls Tryd.prog 21 #[ptr p, shv c s, cel (x + dX k) (y + dY k), .int .i64 (bkN k : Nat)] wx fun e w' => e = .returned (.bool b1) ∧ Below wx.heap.size wx w') := hide fun wx hx => by
        have q := HQ.out wx (bt h2X hx)
        exact steps_is q.1 q.2.1 q.2.2 hb1
      have HLg : Hid (∀ wx v, Below X'.heap.size X' wx → CeR wx v [(x + dX k, y + dY k), (x, y)] → Calls Tryd.prog 24 #[ptr p, shv c s, cel x y, v] wx fun e w' => e = .returned (.bool b2) ∧ Below wx.heap.size wx w') := hide fun wx v hx hv => by
        have q := HQ.out wx (bt h2X hx)
        rw [← hb2]
        exact legal_any p W H tl (whoF L) c s x y v _ wx hv q.1 q.2.1 q.2.2
      have cP := bP.cell
      obtain ⟨⟨s0, s1⟩, -, -⟩ := id bS
      obtain ⟨⟨c0, c1⟩, -, -⟩ := id bC
      obtain ⟨⟨x0, x1⟩, -, -⟩ := id bX
      obtain ⟨nx, hnx⟩ : ∃ nx, x + dX k = nx := ⟨_, rfl⟩
      obtain ⟨ny, hny⟩ : ∃ ny, y + dY k = ny := ⟨_, rfl⟩
      rw [hnx, hny] at HSt HLg bX
      rw [hnx] at x0
      rw [hny] at x1
      clear hyes hb1 hb2
      have hS : ∀ wx, Below X'.heap.size X' wx → wx.cell? ⟨M, 0, none⟩ = some (ptr p) ∧ (wx.cell? ⟨w.heap.size + 1, 0, none⟩ = some (.int .i64 c) ∧ wx.cell? ⟨w.heap.size + 1, 1, none⟩ = some (.int .i64 s)) ∧ (wx.cell? ⟨w.heap.size + 1 + 1, 0, none⟩ = some (.int .i64 x) ∧ wx.cell? ⟨w.heap.size + 1 + 1, 1, none⟩ = some (.int .i64 y)) ∧ (wx.cell? ⟨Bx, 0, none⟩ = some (.int .i64 nx) ∧ wx.cell? ⟨Bx, 1, none⟩ = some (.int .i64 ny)) := fun wx hx =>
        ⟨(hx.cell (p := ⟨M, 0, none⟩) bP.lt).trans cP, (bS.kept hx).1, (bC.kept hx).1, (bX.kept hx).1⟩
      clear cP s0 s1 c0 c1 x0 x1
      cases b1
      · gi_wp2_with fail
        refine Code.wpIn_mono (Q := Only (fun a' Y => a' = { tmps := #[mp W H (.slice a1 tl.length cap1) (.slice a2 L.length cap2), shv c s, cel x y, ptr w.heap.size, ptr (w.heap.size + 1), ptr (w.heap.size + 1 + 1), ptr (w.heap.size + 1 + 1 + 1), ptr M, ptr r, .bool true, .int .i64 (k : Int), ptr Bx, undef, .bool true, .bool false, .tuple #[ptr p, ptr r, .bool true], mp W H (.slice a1 tl.length cap1) (.slice a2 L.length cap2), .tuple #[ptr p, ptr r, .bool true], ptr p, ptr r, .bool true, .bool true, .bool false, undef, ptr p, shv c s, cel x y, .func (.func 40) #[] #[ptr (M + 1), ptr (M + 1 + 1), ptr (M + 1 + 1 + 1)], .int .i64 (k : Int), cel nx ny, ptr p, shv c s, cel nx ny, .int .i64 (k : Int), .int .i64 (bkN k : Nat), .bool false, .bool true, .bool true, undef, undef, undef, undef, undef, undef, undef, undef, .bool true, undef, undef, undef, undef, undef, undef, undef, undef, undef, undef, undef, undef, undef, undef, undef, undef, undef, undef, undef, undef, undef, undef, undef, undef, undef], defers := [] } ∧ Below X'.heap.size X' Y)) ?rest ?_
        case rest =>
          rintro (_ | _ | _ | _ | _) a' Y hO
          all_goals first | exact hO.elim | skip
          obtain ⟨rfl, hX2⟩ := hO
          have R5 := boxed_upto bR hX2 bR.lt
          have cR := R5.cell
          have fR := R5.frozen
          gi_wp2_with fail
          exact ⟨(Keep.of_below hX2).trans (Keep.set Y (p := ⟨w.heap.size + 1 + 1 + 1, 0, none⟩) (.bool false) (by show w.heap.size + 1 + 1 + 1 < _; omega)), HN.out (.inl (by first | rfl | trivial))⟩
        refine wpIn_region_heldR (S := fun wx => wx.cell? ⟨M, 0, none⟩ = some (ptr p) ∧ (wx.cell? ⟨w.heap.size + 1, 0, none⟩ = some (.int .i64 c) ∧ wx.cell? ⟨w.heap.size + 1, 1, none⟩ = some (.int .i64 s)) ∧ (wx.cell? ⟨w.heap.size + 1 + 1, 0, none⟩ = some (.int .i64 x) ∧ wx.cell? ⟨w.heap.size + 1 + 1, 1, none⟩ = some (.int .i64 y)) ∧ (wx.cell? ⟨Bx, 0, none⟩ = some (.int .i64 nx) ∧ wx.cell? ⟨Bx, 1, none⟩ = some (.int .i64 ny))) only_in (by kernel_rfl) (by kernel_rfl) (hS _ (Below.refl _ _).drew) (fun hHeld => ?_)
        refine wpAnyH_take (i := 0) (v := ?_) rfl (by kernel_rfl) (by kernel_rfl) (by kernel_rfl) (fun _ _ _ h => h.elim) (Or.inl ⟨by rfl, ?_⟩) (by assumption) ?_
        rotate_left
        · intro wx hSw
          try dsimp only at hSw
          go_simp
          try with_reducible rfl
        try simp only [Act.put, List.getElem_toArray, List.getElem_cons_zero, List.setIfInBounds_toArray, List.set_cons_zero, List.set_cons_succ]
        refine wpAnyH_take (i := 1) (v := ?_) rfl (by kernel_rfl) (by kernel_rfl) (by kernel_rfl) (fun _ _ _ h => h.elim) (Or.inl ⟨by rfl, ?_⟩) (by assumption) ?_
        rotate_left
        · intro wx hSw
          try dsimp only at hSw
          go_simp
          try with_reducible rfl
        try simp only [Act.put, List.getElem_toArray, List.getElem_cons_zero, List.getElem_cons_succ, List.setIfInBounds_toArray, List.set_cons_zero, List.set_cons_succ]
        refine wpAnyH_take (i := 2) (v := ?_) rfl (by kernel_rfl) (by kernel_rfl) (by kernel_rfl) (fun _ _ _ h => h.elim) (Or.inl ⟨by rfl, ?_⟩) (by assumption) ?_
        rotate_left
        · intro wx hSw
          try dsimp only at hSw
          go_simp
          try with_reducible rfl
        try simp only [Act.put, List.getElem_toArray, List.getElem_cons_zero, List.getElem_cons_succ, List.setIfInBounds_toArray, List.set_cons_zero, List.set_cons_succ]
        refine wpAnyH_take (i := 3) (v := ?_) rfl (by kernel_rfl) (by kernel_rfl) (by kernel_rfl) (fun _ _ _ h => h.elim) (Or.inl ⟨by rfl, ?_⟩) (by assumption) ?_
        rotate_left
        · intro wx hSw
          try dsimp only at hSw
          go_simp
          try with_reducible rfl
        try simp only [Act.put, List.getElem_toArray, List.getElem_cons_zero, List.getElem_cons_succ, List.setIfInBounds_toArray, List.set_cons_zero, List.set_cons_succ]
        refine wpAnyH_ready (rs := [4]) (by kernel_rfl) (by simp) ?_
        refine AllReadyH.cons rfl (fun K hK => ?_) ?_
        · go_simp
          refine (HBk.out _).mono ?_
          rintro e v1 ⟨rfl, rfl⟩
          try go_wp2_with fail
          refine hK.out _ _ ?_ (fun hHeld => ?_)
          · first | exact hS _ (Below.refl _ _).drew | exact hS _ hX2 | exact hS _ (bt hX2 (box1 _ _)) | exact hS _ hX3 | exact hS _ (by assumption)
          clear hK K
          try simp only [Act.put, List.getElem_toArray, List.getElem_cons_zero, List.getElem_cons_succ, List.setIfInBounds_toArray, List.set_cons_zero, List.set_cons_succ]
          refine wpAnyH_ready (rs := [5]) (by kernel_rfl) (by simp) ?_
          refine AllReadyH.cons rfl (fun K hK => ?_) ?_
          · go_simp
            refine (HSt.out _ (Below.refl _ _).drew).mono ?_
            rintro e v2 ⟨rfl, hbv⟩
            have hX2 : Below X'.heap.size X' v2 := below_undrew hbv
            clear hbv
            try go_wp2_with fail
            refine hK.out _ _ ?_ (fun hHeld => ?_)
            · first | exact hS _ (Below.refl _ _).drew | exact hS _ hX2 | exact hS _ (bt hX2 (box1 _ _)) | exact hS _ hX3 | exact hS _ (by assumption)
            clear hK K
            try simp only [Act.put, List.getElem_toArray, List.getElem_cons_zero, List.getElem_cons_succ, List.setIfInBounds_toArray, List.set_cons_zero, List.set_cons_succ]
            refine wpAnyH_take (i := 6) (v := ?_) rfl (by kernel_rfl) (by kernel_rfl) (by kernel_rfl) (fun _ _ _ h => h.elim) (Or.inl ⟨by rfl, ?_⟩) (by assumption) ?_
            rotate_left
            · intro wx hSw
              try dsimp only at hSw
              go_simp
              try with_reducible rfl
            try simp only [Act.put, List.getElem_toArray, List.getElem_cons_zero, List.getElem_cons_succ, List.setIfInBounds_toArray, List.set_cons_zero, List.set_cons_succ]
            refine wpAnyH_take (i := 7) (v := ?_) rfl (by kernel_rfl) (by kernel_rfl) (by kernel_rfl) (fun _ _ _ h => h.elim) (Or.inl ⟨by rfl, ?_⟩) (by assumption) ?_
            rotate_left
            · intro wx hSw
              try dsimp only at hSw
              go_simp
              try with_reducible rfl
            try simp only [Act.put, List.getElem_toArray, List.getElem_cons_zero, List.getElem_cons_succ, List.setIfInBounds_toArray, List.set_cons_zero, List.set_cons_succ]
            refine wpAnyH_take (i := 8) (v := undef) rfl (by kernel_rfl) (by kernel_rfl) (by kernel_rfl) (fun _ _ _ h => h.elim) (Or.inr ⟨by rfl, rfl⟩) (by assumption) ?_
            try simp only [Act.put, List.getElem_toArray, List.getElem_cons_zero, List.getElem_cons_succ, List.setIfInBounds_toArray, List.set_cons_zero, List.set_cons_succ]
            refine wpAnyH_take (i := 9) (v := undef) rfl (by kernel_rfl) (by kernel_rfl) (by kernel_rfl) (fun _ _ _ h => h.elim) (Or.inr ⟨by rfl, rfl⟩) (by assumption) ?_
            try simp only [Act.put, List.getElem_toArray, List.getElem_cons_zero, List.getElem_cons_succ, List.setIfInBounds_toArray, List.set_cons_zero, List.set_cons_succ]
            refine wpAnyH_take (i := 10) (v := undef) rfl (by kernel_rfl) (by kernel_rfl) (by kernel_rfl) (fun _ _ _ h => h.elim) (Or.inr ⟨by rfl, rfl⟩) (by assumption) ?_
            try simp only [Act.put, List.getElem_toArray, List.getElem_cons_zero, List.getElem_cons_succ, List.setIfInBounds_toArray, List.set_cons_zero, List.set_cons_succ]
            refine wpAnyH_take (i := 11) (v := undef) rfl (by kernel_rfl) (by kernel_rfl) (by kernel_rfl) (fun _ _ _ h => h.elim) (Or.inr ⟨by rfl, rfl⟩) (by assumption) ?_
            try simp only [Act.put, List.getElem_toArray, List.getElem_cons_zero, List.getElem_cons_succ, List.setIfInBounds_toArray, List.set_cons_zero, List.set_cons_succ]
            refine wpAnyH_take (i := 12) (v := undef) rfl (by kernel_rfl) (by kernel_rfl) (by kernel_rfl) (fun _ _ _ h => h.elim) (Or.inr ⟨by rfl, rfl⟩) (by assumption) ?_
            try simp only [Act.put, List.getElem_toArray, List.getElem_cons_zero, List.getElem_cons_succ, List.setIfInBounds_toArray, List.set_cons_zero, List.set_cons_succ]
            refine wpAnyH_take (i := 13) (v := undef) rfl (by kernel_rfl) (by kernel_rfl) (by kernel_rfl) (fun _ _ _ h => h.elim) (Or.inr ⟨by rfl, rfl⟩) (by assumption) ?_
            try simp only [Act.put, List.getElem_toArray, List.getElem_cons_zero, List.getElem_cons_succ, List.setIfInBounds_toArray, List.set_cons_zero, List.set_cons_succ]
            refine wpAnyH_take (i := 14) (v := undef) rfl (by kernel_rfl) (by kernel_rfl) (by kernel_rfl) (fun _ _ _ h => h.elim) (Or.inr ⟨by rfl, rfl⟩) (by assumption) ?_
            try simp only [Act.put, List.getElem_toArray, List.getElem_cons_zero, List.getElem_cons_succ, List.setIfInBounds_toArray, List.set_cons_zero, List.set_cons_succ]
            refine wpAnyH_take (i := 15) (v := undef) rfl (by kernel_rfl) (by kernel_rfl) (by kernel_rfl) (fun _ _ _ h => h.elim) (Or.inr ⟨by rfl, rfl⟩) (by assumption) ?_
            try simp only [Act.put, List.getElem_toArray, List.getElem_cons_zero, List.getElem_cons_succ, List.setIfInBounds_toArray, List.set_cons_zero, List.set_cons_succ]
            refine wpAnyH_take (i := 16) (v := ?_) rfl (by kernel_rfl) (by kernel_rfl) (by kernel_rfl) (fun _ _ _ h => h.elim) (Or.inl ⟨by rfl, ?_⟩) (by assumption) ?_
            rotate_left
            · intro wx hSw
              try dsimp only at hSw
              go_simp
              try with_reducible rfl
            try simp only [Act.put, List.getElem_toArray, List.getElem_cons_zero, List.getElem_cons_succ, List.setIfInBounds_toArray, List.set_cons_zero, List.set_cons_succ]
            refine wpAnyH_done (by kernel_rfl) ?_ _
            exact ⟨rfl, hX2⟩
          exact AllReadyH.nil
        exact AllReadyH.nil
      · gi_wp2_with fail
        refine Code.wpIn_mono (Q := Only (fun a' Y => ∃ bs : Nat, a' = { tmps := #[mp W H (.slice a1 tl.length cap1) (.slice a2 L.length cap2), shv c s, cel x y, ptr w.heap.size, ptr (w.heap.size + 1), ptr (w.heap.size + 1 + 1), ptr (w.heap.size + 1 + 1 + 1), ptr M, ptr r, .bool true, .int .i64 (k : Int), ptr Bx, undef, .bool true, .bool false, .tuple #[ptr p, ptr r, .bool true], mp W H (.slice a1 tl.length cap1) (.slice a2 L.length cap2), .tuple #[ptr p, ptr r, .bool true], ptr p, ptr r, .bool true, .bool true, .bool false, undef, ptr p, shv c s, cel x y, .func (.func 40) #[] #[ptr (M + 1), ptr (M + 1 + 1), ptr (M + 1 + 1 + 1)], .int .i64 (k : Int), cel nx ny, ptr p, shv c s, cel nx ny, .int .i64 (k : Int), .int .i64 (bkN k : Nat), .bool true, .bool false, .bool false, ptr p, shv c s, cel x y, cel nx ny, cel x y, .slice (some ⟨bs, 0, none⟩) 2 2, .bool b2, .bool (!b2), .bool (!b2), undef, undef, undef, undef, undef, undef, undef, undef, undef, undef, undef, undef, undef, undef, undef, undef, undef, undef, undef, undef, undef, undef, undef, undef, undef], defers := [] } ∧ Below X'.heap.size X' Y)) ?rest ?_
        case rest =>
          rintro (_ | _ | _ | _ | _) a' Y hO
          all_goals first | exact hO.elim | skip
          obtain ⟨bs, rfl, hX3⟩ := hO
          have R5 := boxed_upto bR hX3 bR.lt
          have cR := R5.cell
          have fR := R5.frozen
          cases b2
          · gi_wp2_with fail
            exact ⟨(Keep.of_below hX3).trans (Keep.set Y (p := ⟨w.heap.size + 1 + 1 + 1, 0, none⟩) (.bool false) (by show w.heap.size + 1 + 1 + 1 < _; omega)), HN.out (.inr (by first | rfl | trivial))⟩
          · gi_wp2_with fail
            exact ⟨Keep.of_below hX3, KN.below hX3 (by omega) (by omega), hB.trans (hX3.mono (by omega))⟩
        refine wpIn_region_heldR (S := fun wx => wx.cell? ⟨M, 0, none⟩ = some (ptr p) ∧ (wx.cell? ⟨w.heap.size + 1, 0, none⟩ = some (.int .i64 c) ∧ wx.cell? ⟨w.heap.size + 1, 1, none⟩ = some (.int .i64 s)) ∧ (wx.cell? ⟨w.heap.size + 1 + 1, 0, none⟩ = some (.int .i64 x) ∧ wx.cell? ⟨w.heap.size + 1 + 1, 1, none⟩ = some (.int .i64 y)) ∧ (wx.cell? ⟨Bx, 0, none⟩ = some (.int .i64 nx) ∧ wx.cell? ⟨Bx, 1, none⟩ = some (.int .i64 ny))) only_in (by kernel_rfl) (by kernel_rfl) (hS _ (Below.refl _ _).drew) (fun hHeld => ?_)
        refine wpAnyH_take (i := 0) (v := ?_) rfl (by kernel_rfl) (by kernel_rfl) (by kernel_rfl) (fun _ _ _ h => h.elim) (Or.inl ⟨by rfl, ?_⟩) (by assumption) ?_
        rotate_left
        · intro wx hSw
          try dsimp only at hSw
          go_simp
          try with_reducible rfl
        try simp only [Act.put, List.getElem_toArray, List.getElem_cons_zero, List.setIfInBounds_toArray, List.set_cons_zero, List.set_cons_succ]
        refine wpAnyH_take (i := 1) (v := ?_) rfl (by kernel_rfl) (by kernel_rfl) (by kernel_rfl) (fun _ _ _ h => h.elim) (Or.inl ⟨by rfl, ?_⟩) (by assumption) ?_
        rotate_left
        · intro wx hSw
          try dsimp only at hSw
          go_simp
          try with_reducible rfl
        try simp only [Act.put, List.getElem_toArray, List.getElem_cons_zero, List.getElem_cons_succ, List.setIfInBounds_toArray, List.set_cons_zero, List.set_cons_succ]
        refine wpAnyH_take (i := 2) (v := ?_) rfl (by kernel_rfl) (by kernel_rfl) (by kernel_rfl) (fun _ _ _ h => h.elim) (Or.inl ⟨by rfl, ?_⟩) (by assumption) ?_
        rotate_left
        · intro wx hSw
          try dsimp only at hSw
          go_simp
          try with_reducible rfl
        try simp only [Act.put, List.getElem_toArray, List.getElem_cons_zero, List.getElem_cons_succ, List.setIfInBounds_toArray, List.set_cons_zero, List.set_cons_succ]
        refine wpAnyH_take (i := 3) (v := ?_) rfl (by kernel_rfl) (by kernel_rfl) (by kernel_rfl) (fun _ _ _ h => h.elim) (Or.inl ⟨by rfl, ?_⟩) (by assumption) ?_
        rotate_left
        · intro wx hSw
          try dsimp only at hSw
          go_simp
          try with_reducible rfl
        try simp only [Act.put, List.getElem_toArray, List.getElem_cons_zero, List.getElem_cons_succ, List.setIfInBounds_toArray, List.set_cons_zero, List.set_cons_succ]
        refine wpAnyH_ready (rs := [4]) (by kernel_rfl) (by simp) ?_
        refine AllReadyH.cons rfl (fun K hK => ?_) ?_
        · go_simp
          refine (HBk.out _).mono ?_
          rintro e v1 ⟨rfl, rfl⟩
          try go_wp2_with fail
          refine hK.out _ _ ?_ (fun hHeld => ?_)
          · first | exact hS _ (Below.refl _ _).drew | exact hS _ hX2 | exact hS _ (bt hX2 (box1 _ _)) | exact hS _ hX3 | exact hS _ (by assumption)
          clear hK K
          try simp only [Act.put, List.getElem_toArray, List.getElem_cons_zero, List.getElem_cons_succ, List.setIfInBounds_toArray, List.set_cons_zero, List.set_cons_succ]
          refine wpAnyH_ready (rs := [5]) (by kernel_rfl) (by simp) ?_
          refine AllReadyH.cons rfl (fun K hK => ?_) ?_
          · go_simp
            refine (HSt.out _ (Below.refl _ _).drew).mono ?_
            rintro e v2 ⟨rfl, hbv⟩
            have hX2 : Below X'.heap.size X' v2 := below_undrew hbv
            clear hbv
            try go_wp2_with fail
            refine hK.out _ _ ?_ (fun hHeld => ?_)
            · first | exact hS _ (Below.refl _ _).drew | exact hS _ hX2 | exact hS _ (bt hX2 (box1 _ _)) | exact hS _ hX3 | exact hS _ (by assumption)
            clear hK K
            try simp only [Act.put, List.getElem_toArray, List.getElem_cons_zero, List.getElem_cons_succ, List.setIfInBounds_toArray, List.set_cons_zero, List.set_cons_succ]
            refine wpAnyH_take (i := 6) (v := ?_) rfl (by kernel_rfl) (by kernel_rfl) (by kernel_rfl) (fun _ _ _ h => h.elim) (Or.inl ⟨by rfl, ?_⟩) (by assumption) ?_
            rotate_left
            · intro wx hSw
              try dsimp only at hSw
              go_simp
              try with_reducible rfl
            try simp only [Act.put, List.getElem_toArray, List.getElem_cons_zero, List.getElem_cons_succ, List.setIfInBounds_toArray, List.set_cons_zero, List.set_cons_succ]
            refine wpAnyH_take (i := 7) (v := ?_) rfl (by kernel_rfl) (by kernel_rfl) (by kernel_rfl) (fun _ _ _ h => h.elim) (Or.inl ⟨by rfl, ?_⟩) (by assumption) ?_
            rotate_left
            · intro wx hSw
              try dsimp only at hSw
              go_simp
              try with_reducible rfl
            try simp only [Act.put, List.getElem_toArray, List.getElem_cons_zero, List.getElem_cons_succ, List.setIfInBounds_toArray, List.set_cons_zero, List.set_cons_succ]
            refine wpAnyH_take (i := 8) (v := ?_) rfl (by kernel_rfl) (by kernel_rfl) (by kernel_rfl) (fun _ _ _ h => h.elim) (Or.inl ⟨by rfl, ?_⟩) (by assumption) ?_
            rotate_left
            · intro wx hSw
              try dsimp only at hSw
              go_simp
              try with_reducible rfl
            try simp only [Act.put, List.getElem_toArray, List.getElem_cons_zero, List.getElem_cons_succ, List.setIfInBounds_toArray, List.set_cons_zero, List.set_cons_succ]
            refine wpAnyH_take (i := 9) (v := ?_) rfl (by kernel_rfl) (by kernel_rfl) (by kernel_rfl) (fun _ _ _ h => h.elim) (Or.inl ⟨by rfl, ?_⟩) (by assumption) ?_
            rotate_left
            · intro wx hSw
              try dsimp only at hSw
              go_simp
              try with_reducible rfl
            try simp only [Act.put, List.getElem_toArray, List.getElem_cons_zero, List.getElem_cons_succ, List.setIfInBounds_toArray, List.set_cons_zero, List.set_cons_succ]
            refine wpAnyH_take (i := 10) (v := ?_) rfl (by kernel_rfl) (by kernel_rfl) (by kernel_rfl) (fun _ _ _ h => h.elim) (Or.inl ⟨by rfl, ?_⟩) (by assumption) ?_
            rotate_left
            · intro wx hSw
              try dsimp only at hSw
              go_simp
              try with_reducible rfl
            try simp only [Act.put, List.getElem_toArray, List.getElem_cons_zero, List.getElem_cons_succ, List.setIfInBounds_toArray, List.set_cons_zero, List.set_cons_succ]
            refine wpAnyH_take (i := 11) (v := ?_) rfl (by kernel_rfl) (by kernel_rfl) (by kernel_rfl) (fun _ _ _ h => h.elim) (Or.inl ⟨by rfl, ?_⟩) (by assumption) ?_
            rotate_left
            · intro wx hSw
              try dsimp only at hSw
              go_simp
              try with_reducible rfl
            try simp only [Act.put, List.getElem_toArray, List.getElem_cons_zero, List.getElem_cons_succ, List.setIfInBounds_toArray, List.set_cons_zero, List.set_cons_succ]
            refine wpAnyH_take (i := 12) (v := ?_) rfl (by kernel_rfl) (by kernel_rfl) (by kernel_rfl) (fun _ _ _ h => h.elim) (Or.inl ⟨by rfl, ?_⟩) (by assumption) ?_
            rotate_left
            · intro wx hSw
              try dsimp only at hSw
              go_simp
              try with_reducible rfl
            try simp only [Act.put, List.getElem_toArray, List.getElem_cons_zero, List.getElem_cons_succ, List.setIfInBounds_toArray, List.set_cons_zero, List.set_cons_succ]
            refine wpAnyH_ready (rs := [13]) (by kernel_rfl) (by simp) ?_
            refine AllReadyH.cons rfl (fun K hK => ?_) ?_
            · go_simp
              refine hK.out _ _ ?_ (fun hHeld => ?_)
              · first | exact hS _ (Below.refl _ _).drew | exact hS _ hX2 | exact hS _ (bt hX2 (box1 _ _)) | exact hS _ hX3 | exact hS _ (by assumption)
              clear hK K
              try simp only [Act.put, List.getElem_toArray, List.getElem_cons_zero, List.getElem_cons_succ, List.setIfInBounds_toArray, List.set_cons_zero, List.set_cons_succ]
              refine wpAnyH_ready (rs := [14]) (by kernel_rfl) (by simp) ?_
              refine AllReadyH.cons rfl (fun K hK => ?_) ?_
              · go_simp
                refine (HLg.out _ _ (bt hX2 (box1 _ _)) (ceR_two _ _ _ _ _)).mono ?_
                rintro e v3 ⟨rfl, hb3⟩
                have hX3 : Below X'.heap.size X' v3 := bt (bt hX2 (box1 _ _)) hb3
                clear hb3
                try go_wp2_with fail
                refine hK.out _ _ ?_ (fun hHeld => ?_)
                · first | exact hS _ (Below.refl _ _).drew | exact hS _ hX2 | exact hS _ (bt hX2 (box1 _ _)) | exact hS _ hX3 | exact hS _ (by assumption)
                clear hK K
                try simp only [Act.put, List.getElem_toArray, List.getElem_cons_zero, List.getElem_cons_succ, List.setIfInBounds_toArray, List.set_cons_zero, List.set_cons_succ]
                refine wpAnyH_take (i := 15) (v := ?_) rfl (by kernel_rfl) (by kernel_rfl) (by kernel_rfl) (fun _ _ _ h => h.elim) (Or.inl ⟨by rfl, ?_⟩) (by assumption) ?_
                rotate_left
                · intro wx hSw
                  try dsimp only at hSw
                  go_simp
                  try with_reducible rfl
                try simp only [Act.put, List.getElem_toArray, List.getElem_cons_zero, List.getElem_cons_succ, List.setIfInBounds_toArray, List.set_cons_zero, List.set_cons_succ]
                refine wpAnyH_take (i := 16) (v := ?_) rfl (by kernel_rfl) (by kernel_rfl) (by kernel_rfl) (fun _ _ _ h => h.elim) (Or.inl ⟨by rfl, ?_⟩) (by assumption) ?_
                rotate_left
                · intro wx hSw
                  try dsimp only at hSw
                  go_simp
                  try with_reducible rfl
                try simp only [Act.put, List.getElem_toArray, List.getElem_cons_zero, List.getElem_cons_succ, List.setIfInBounds_toArray, List.set_cons_zero, List.set_cons_succ]
                refine wpAnyH_done (by kernel_rfl) ?_ _
                exact ⟨_, rfl, hX3⟩
              exact AllReadyH.nil
            exact AllReadyH.nil
          exact AllReadyH.nil
        exact AllReadyH.nil
    case done =>
      rintro D xs X' hD rfl hB hK
      have hsB := hB.size
      have hBX : Below w.heap.size w X' := BW0.trans (hB.mono (by omega))
      have h2X : Below w2.heap.size w2 X' := B24.trans (hB.mono (by omega))
      have bP := boxed_upto P4 hB (by omega)
      have bS := S4.upto hB (by omega)
      have bC := C4.upto hB (by omega)
      have bR := boxed_upto R4 hB (by omega)
      have HSt : Hid (∀ wx, Below w2.heap.size w2 wx → ∀ n b, stB W H tl (whoF L) c n x y = b → Calls Tryd.prog 16 #[ptr p, shv c n, cel x y] wx fun e w' => e = .returned (.bool b) ∧ Below wx.heap.size wx w') := hide fun wx hx n b hb => by
        have q := HQ.out wx hx
        exact stands_is q.1 q.2.1 hb
      clear K4 P4 S4 C4 R4 hW hR
      gi_wp2_with fail
      gi_loopw [12] (fun i wr => ∃ j : Nat, 1 ≤ j ∧ j ≤ 5 ∧ i = .int .i64 (j : Int) ∧ ∃ m : Lat X', wr = m.w) (fun i _ => 5 - (intOf i).toNat)
      case atStart => exact ⟨1, Nat.le_refl _, by omega, rfl, ⟨X', Below.refl _ _⟩, rfl⟩
      case round =>
        obtain ⟨j, hj1, hj, rfl, m, rfl⟩ := hrel
        have pc := (boxed_upto bP m.h bP.lt).cell
        obtain ⟨⟨s0, s1⟩, -, -⟩ := bS.kept m.h
        obtain ⟨⟨c0, c1⟩, -, -⟩ := bC.kept m.h
        by_cases hlt : j < 5
        · have hle : (j : Int) ≤ 4 := by omega
          cases hb : stB W H tl (whoF L) c s x y
          · have HB := hide hb
            clear hb
            gi_wp2_with fail
            refine ⟨trivial, ?_⟩
            refine (callsIn_wide.2 (HSt.out _ (bt h2X m.h) _ _ HB.out)).mono ?_
            rintro e v1 ⟨rfl, hb1⟩
            have hm1 := bt m.h hb1
            clear pc s0 s1 c0 c1 hb1
            gi_wp2_with fail
            refine ⟨trivial, ?_⟩
            gi_wp2_with fail
            go_roundw
            case rel => exact ⟨j + 1, by omega, by omega, by go_num, ⟨v1, hm1⟩, rfl⟩
            case measure => simp [intOf]; omega
          · have HB := hide hb
            by_cases hjs : (j : Int) ≤ s
            · have HL2 := hide (st_less hb (n := (j : Int)) (by omega) hjs)
              clear hb
              gi_wp2_with fail
              refine ⟨trivial, ?_⟩
              refine (callsIn_wide.2 (HSt.out _ (bt h2X m.h) _ _ HB.out)).mono ?_
              rintro e v1 ⟨rfl, hb1⟩
              have hm1 := bt m.h hb1
              clear pc s0 s1 c0 c1 hb1
              have pc := (boxed_upto bP hm1 bP.lt).cell
              obtain ⟨⟨s0, s1⟩, -, -⟩ := bS.kept hm1
              obtain ⟨⟨c0, c1⟩, -, -⟩ := bC.kept hm1
              gi_wp2_with fail
              refine ⟨trivial, ?_⟩
              refine (callsIn_wide.2 (HSt.out _ (bt h2X hm1) _ _ HL2.out)).mono ?_
              rintro e v2 ⟨rfl, hb2⟩
              have hm2 := bt hm1 hb2
              clear pc s0 s1 c0 c1 hb2
              gi_wp2_with fail
              go_roundw
              case rel => exact ⟨j + 1, by omega, by omega, by go_num, ⟨v2, hm2⟩, rfl⟩
              case measure => simp [intOf]; omega
            · clear hb
              gi_wp2_with fail
              refine ⟨trivial, ?_⟩
              refine (callsIn_wide.2 (HSt.out _ (bt h2X m.h) _ _ HB.out)).mono ?_
              rintro e v1 ⟨rfl, hb1⟩
              have hm1 := bt m.h hb1
              clear pc s0 s1 c0 c1 hb1
              obtain ⟨⟨s0, s1⟩, -, -⟩ := bS.kept hm1
              gi_wp2_with fail
              refine ⟨trivial, ?_⟩
              gi_wp2_with fail
              go_roundw
              case rel => exact ⟨j + 1, by omega, by omega, by go_num, ⟨v1, hm1⟩, rfl⟩
              case measure => simp [intOf]; omega
        · obtain rfl : j = 5 := by omega
          have hle : ¬ ((5 : Nat) : Int) ≤ 4 := by omega
          clear pc s0 s1 c0 c1
          gi_wp2_with fail
          refine ⟨trivial, ?_⟩
          refine (callsIn_wide.2 (HAw.out _ (bt hBX m.h))).mono ?_
          rintro e v1 ⟨rfl, hb1⟩
          have hm1 := bt m.h hb1
          have R6 := boxed_upto bR hm1 bR.lt
          have cR := R6.cell
          have fR := R6.frozen
          have hK1 : v1.heap[D]? = some (.deferred (some [])) := (hm1.block D (Array.getElem?_eq_some_iff.1 hK).1).trans hK
          gi_wp2_with fail
          have hK3 := (KeepsOthers.setCell v1 ⟨w.heap.size + 1 + 1 + 1, 0, none⟩ (.bool true)).same D _ hK1 rfl
          refine ⟨by simp, .inl ⟨_, _, rfl, run_takeDeferred hK3, ?_⟩⟩
          have hc5 := cell_kept (R6.set (.bool true)).cell (grownBy_putObj' _ D (.deferred none)) (fun r e => by cases e; exact ⟨_, hK3, rfl⟩)
          refine ⟨.bool true, ?_, rfl, ((bt hBX hm1).setCell (p := ⟨w.heap.size + 1 + 1 + 1, 0, none⟩) (by show _ ≤ w.heap.size + 1 + 1 + 1; omega) _).trans (belowK_b (w := w) (Nat.le_refl _) _ D _ _ (by omega) hK3 rfl rfl)⟩
          simp [results, Tryd.f7, go_sem, hc5]
    case stop =>
      rintro D pre X' hD hpre hx hK
      exact absurd hpre hx
  · have HBo := hide (both_no W H _ _ tl L w1 (HV.out w1 B1).1 hb (HV.out w1 B1).2 hc)
    gi_wp2_with fail
    refine ⟨trivial, ?_⟩
    refine (callsIn_wide.2 HBo.out).mono ?_
    rintro e w2 ⟨rfl, hb2⟩
    clear m0 m1 m2 m3 M1 HBo hc hb HV S1 C1
    have P3 : Below w2.heap.size w2 (w2.alloc (.cells #[.pointer none] 37)) := box1 _ _
    have R2 := boxed_upto (boxed_upto R1 hb2 R1.lt) P3 (Nat.lt_of_lt_of_le R1.lt hb2.size)
    have B2 := bt (bt B1 hb2) P3
    clear R1 hb2
    gi_wp2_with fail
    refine ⟨trivial, ?_⟩
    refine (callsIn_wide.2 (HAw.out _ B2)).mono ?_
    rintro e w3 ⟨rfl, hb3⟩
    have R3 := boxed_upto R2 hb3 R2.lt
    have cR := R3.cell
    have fR := R3.frozen
    gi_wp2_with fail
    exact ⟨.bool true, by simp [results, Tryd.f7, go_sem, cR], rfl, (bt B2 hb3).setCell (p := ⟨w.heap.size + 1 + 1 + 1, 0, none⟩) (by simp; omega) _⟩
end Go.Proofs.YthacppifndakjaaDoor
