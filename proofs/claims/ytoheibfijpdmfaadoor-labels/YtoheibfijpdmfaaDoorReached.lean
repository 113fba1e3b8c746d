/-
  The cells whose clearance an edit can turn, gone through from the last one back.
-/
import Derived.Test.YtoheibfijpdmfaaDoorReach
import Derived.Test.YtoheibfijpdmfaaDoorSeqs
import Derived.Test.YtoheibfijpdmfaaDoorHeldY
set_option linter.unusedSimpArgs false
namespace Go.Proofs.YtoheibfijpdmfaaDoor
open Go.RowKit Go.Shelf
set_option linter.unusedVariables false
attribute [local go_sem] Oper.semAt_some
/-- The slice v reads as rectangles. -/
def RcB (w : World) (v : Value) (l : List Rc) : Prop :=
  ∃ a cap, v = .slice a l.length cap ∧ l.length ≤ cap ∧ ∀ i r, l[i]? = some r → ∃ g, a = some ⟨g, 0, none⟩ ∧ g < w.heap.size ∧
    w.cell? ⟨g, i * 4, none⟩ = some (.int .i64 r.x) ∧ w.cell? ⟨g, i * 4 + 1, none⟩ = some (.int .i64 r.y) ∧ w.cell? ⟨g, i * 4 + 2, none⟩ = some (.int .i64 r.a) ∧ w.cell? ⟨g, i * 4 + 3, none⟩ = some (.int .i64 r.b)
theorem RcB.kept {w w' : World} {v : Value} {l : List Rc} (h : RcB w v l) (hb : Below w.heap.size w w') : RcB w' v l := by
  obtain ⟨a, cap, e, h1, h2⟩ := h
  refine ⟨a, cap, e, h1, fun i r hr => ?_⟩
  obtain ⟨g, e1, e2, c0, c1, c2, c3⟩ := h2 i r hr
  exact ⟨g, e1, Nat.lt_of_lt_of_le e2 hb.size, (hb.cell (p := ⟨g, _, none⟩) e2).trans c0, (hb.cell (p := ⟨g, _, none⟩) e2).trans c1, (hb.cell (p := ⟨g, _, none⟩) e2).trans c2, (hb.cell (p := ⟨g, _, none⟩) e2).trans c3⟩
def inR (wd : Nat) (r : Rc) (k : Nat) : Bool := decide ((r.x - 3 ≤ ((k % wd : Nat) : Int) ∧ ((k % wd : Nat) : Int) ≤ r.x + r.a - 1) ∧ r.y - 3 ≤ ((k / wd : Nat) : Int) ∧ ((k / wd : Nat) : Int) ≤ r.y + r.b - 1)
def mkR (wd : Nat) (rl : List Rc) (k : Nat) : Bool := rl.any (fun r => inR wd r k)
abbrev encK (wd : Nat) {N : Nat} (k : Fin N) : Array Value := #[cel ((k.val % wd : Nat) : Int) ((k.val / wd : Nat) : Int)]
/-- The marked cells, from the last one back. -/
def markL (N wd : Nat) (rl : List Rc) : List (Fin N) := (List.finRange N).reverse.filter (fun i => mkR wd rl i.val)
abbrev mark (D : Nat) : Deferred := { target := .collected D, args := #[] }
/-- What the loop over the rectangles keeps. -/
def Lp (V0 : World) (c mbx mb N wd : Nat) (rl : List Rc) (X : World) (i : Nat) (Ds : List Nat) : Prop :=
  ((Below V0.heap.size V0 X ∧ Boxed X mbx 43 (sl mb N)) ∧ Mks X mb N (mkR wd (rl.take i))) ∧ (Ds.Nodup ∧ ∀ D ∈ Ds, c ≤ D ∧ X.heap[D]? = some (.deferred (some []))) ∧ c ≤ X.heap.size
theorem leave_marks {n : Nat} {fn : Func} {tmps : Array Value} {R : Ending → World → Prop} {c : Nat} (Jp : World → Prop) (hst : ∀ X D, c ≤ D → X.heap[D]? = some (.deferred (some [])) → Jp X → Jp (X.putObj D (.deferred none)))
    (hend : ∀ X, Jp X → LeavesInM Fence.wide n Tryd.prog fn tmps R [] .returning X) : ∀ (Ds : List Nat) (X : World), Ds.Nodup → (∀ D ∈ Ds, c ≤ D ∧ X.heap[D]? = some (.deferred (some []))) → Jp X → LeavesInM Fence.wide n Tryd.prog fn tmps R (Ds.map mark) .returning X
  | [], X, _, _, h => hend X h
  | D :: Ds, X, hnd, hD, h => by
    have hn := List.nodup_cons.1 hnd
    refine ⟨by simp, .inl ⟨D, _, rfl, run_takeDeferred (hD D (by simp)).2, ?_⟩⟩
    refine leave_marks Jp hst hend Ds _ hn.2 (fun D' hD' => ⟨(hD D' (by simp [hD'])).1, ?_⟩) (hst X D (hD D (by simp)).1 (hD D (by simp)).2 h)
    rw [World.putObj_heap_other (by rintro rfl; exact hn.1 hD')]
    exact (hD D' (by simp [hD'])).2
theorem wpIn_only {F : Fence} {m : Nat} {c : Code} {Q : Exit → Act → World → Prop} {a : Act} {w : World} (h : c.wpIn F m Tryd.prog (Only (fun a' w' => Q .normal a' w')) a w) : c.wpIn F m Tryd.prog Q a w := by
  refine Code.wpIn_mono ?_ h
  rintro (_ | _ | _ | _ | _) a' w' hO
  all_goals first | exact hO.elim | exact hO
/-- A rectangle's cells, by their places in the world. -/
theorem cover {wd ht N U Vv A Bn k : Nat} {r : Rc} (hN : N = wd * ht) (hA : 1 ≤ A) (hUA : U + A ≤ wd) (hVB : Vv + Bn ≤ ht) (hU : max (r.x - 3) 0 = (U : Int)) (hV : max (r.y - 3) 0 = (Vv : Int)) (hA' : r.x + r.a - (U : Int) = (A : Int)) (hB' : r.y + r.b - (Vv : Int) = (Bn : Int)) (hk : k < N) :
    (List.finRange (Bn * A)).any (fun q => decide ((Vv + q.val / A) * wd + (U + q.val % A) = k)) = inR wd r k := by
  rw [Bool.eq_iff_iff, List.any_eq_true]
  simp only [inR, decide_eq_true_eq]
  have hkx : k % wd < wd := Nat.mod_lt _ (by omega)
  constructor
  · rintro ⟨q, -, rfl⟩
    have h1 : q.val % A < A := Nat.mod_lt _ hA
    have h2 : q.val / A < Bn := by rw [Nat.div_lt_iff_lt_mul hA]; exact q.isLt
    rw [(idx_mod (w := wd) (x := U + q.val % A) (y := Vv + q.val / A) (by omega)).1, (idx_mod (w := wd) (x := U + q.val % A) (y := Vv + q.val / A) (by omega)).2]
    generalize q.val % A = a1 at *
    generalize q.val / A = a2 at *
    omega
  · rintro ⟨⟨h1, h2⟩, h3, h4⟩
    have e : k / wd * wd + k % wd = k := by rw [Nat.mul_comm]; exact Nat.div_add_mod k wd
    generalize hx : k % wd = kx at *
    generalize hy : k / wd = ky at *
    have hlt : (ky - Vv) * A + (kx - U) < Bn * A := by
      have := idx_lt (w := A) (h := Bn) (x := kx - U) (y := ky - Vv) (by omega) (by omega)
      rwa [Nat.mul_comm A Bn] at this
    refine ⟨⟨(ky - Vv) * A + (kx - U), hlt⟩, List.mem_finRange _, ?_⟩
    simp only
    rw [(idx_mod (w := A) (x := kx - U) (y := ky - Vv) (by omega)).1, (idx_mod (w := A) (x := kx - U) (y := ky - Vv) (by omega)).2, show Vv + (ky - Vv) = ky by omega, show U + (kx - U) = kx by omega]
    exact e
theorem mks_own {β : Type} {B b n : Nat} {F : β → Nat → Bool} : OwnFrom B (fun (s : β) W => Mks W b n (F s)) := fun s X Y row hs hg hr => hs.own hg (fun r e => (hr r e).2)
theorem marks_own {β : Type} {B c : Nat} {Ds : List Nat} (hD : ∀ D ∈ Ds, D < B) : OwnFrom B (fun (_ : β) W => ∀ D ∈ Ds, c ≤ D ∧ W.heap[D]? = some (.deferred (some []))) := fun s X Y row hs hg hr D hm => by
  refine ⟨(hs D hm).1, ?_⟩
  have h' := (hs D hm).2
  refine (hg.block D (Array.getElem?_eq_some_iff.1 h').1 (fun e => ?_)).trans h'
  have := (hr D e.symm).1
  have := hD D hm
  omega
theorem cell_other {X : World} {b o b' o' : Nat} {v u : Value} (h : X.cell? ⟨b, o, none⟩ = some v) (hne : b ≠ b') : (X.setCell ⟨b', o', none⟩ u).cell? ⟨b, o, none⟩ = some v := (World.cell?_setCell_other X ⟨b', o', none⟩ ⟨b, o, none⟩ u (by intro e; injection e with e1; omega)).trans h
theorem kB_set {B : Nat} (X : World) {p : Addr} (v : Value) (h : B ≠ p.block) : KB B X (X.setCell p v) := Below.heap_setCell X p v B h
theorem back_any (c m : Nat) (w : World) : Calls Tryd.prog 96 #[sl c m] w fun e w' => e = .returned (.func (.func 102) #[] #[ptr w.heap.size]) ∧ w' = w.alloc (.cells #[sl c m] 43) := by
  go_enter Tryd.func96, Tryd.ntmps96
  go_wp2_with fail
  go_ret
  exact ⟨rfl, rfl⟩
theorem block_own {β : Type} {B b : Nat} {cs : Array Value} {t : TypeId} : OwnFrom B (fun (_ : β) W => W.heap[b]? = some (.cells cs t (0, 0))) := fun s X Y row hs hg hr =>
  (hg.block b (Array.getElem?_eq_some_iff.1 hs).1 (fun e => by
    obtain ⟨-, o, ho, hc⟩ := hr b e.symm
    rw [hs] at ho
    cases ho
    cases hc)).trans hs
/-- The marked ones of a list. -/
def filt {N : Nat} (l : List (Fin N × Bool)) : List (Fin N) := (l.filter (fun q => q.2)).map (fun q => q.1)
theorem filt_snoc {N : Nat} (l : List (Fin N × Bool)) (q : Fin N × Bool) : filt (l ++ [q]) = filt l ++ (if q.2 = true then [q.1] else []) := by
  unfold filt
  rw [List.filter_append, List.map_append]
  cases h : q.2 <;> simp [h]
theorem filt_len {N : Nat} (l : List (Fin N × Bool)) : (filt l).length ≤ l.length := by
  unfold filt
  rw [List.length_map]
  exact List.length_filter_le _ _
theorem filt_pre {N : Nat} {a b : List (Fin N × Bool)} (h : a <+: b) : filt a <+: filt b := (h.filter _).map _
theorem filt_back {N wd : Nat} {rl : List Rc} : filt (backL N (mkR wd rl)) = markL N wd rl := by
  unfold filt backL markL
  rw [List.filter_map, List.map_map]
  simp [Function.comp_def]
theorem wrap_nat {n : Nat} (h : n ≤ 16384) : IntKind.i64.wrap (n : Int) = (n : Int) := by rw [IntKind.wrap_i64]; omega
theorem bool_end {e : Ending} {A : Prop} {P Q : Prop} (h : A ∧ ((e = .returned (.bool true) ∧ P) ∨ (e = .returned (.bool false) ∧ Q))) : ∃ b : Bool, e = .returned (.bool b) ∧ A ∧ ((b = true ∧ P) ∨ (b = false ∧ Q)) := by
  obtain ⟨h1, (⟨h2, h3⟩ | ⟨h2, h3⟩)⟩ := h
  · exact ⟨true, h2, h1, .inl ⟨rfl, h3⟩⟩
  · exact ⟨false, h2, h1, .inr ⟨rfl, h3⟩⟩
theorem gs_of {n : Nat} (h : 1 ≤ n ∧ n ≤ 128) : gs (n : Int) 128 = true := by simp only [gs, decide_eq_true_eq]; omega
set_option maxRecDepth 100000 in
set_option maxHeartbeats 8000000 in
theorem reached_seq (n p q he hf b N : Nat) (cl ep : Int) (wd ht : Nat) (ev : Value) (rl : List Rc) (w : World) (hn : 1 ≤ n) (hwd : (1 ≤ wd ∧ wd ≤ 128) ∧ 1 ≤ ht ∧ ht ≤ 128) (hN : N = wd * ht)
    (hd : Fd w p q cl wd ht b N ep) (hE : Boxed w he 87 ev) (hF : Boxed w hf 58 (ptr p)) (hR : RcB w ev rl) (hrl : rl.length ≤ 1000000) (hwi : ∀ r ∈ rl, wi r.x r.y r.a r.b 0 0 wd ht = true) :
    SeqOwn n 94 #[ptr he, ptr hf] (encK wd (N := N)) (KB2 p hf) (fun xs => xs = markL N wd rl) (fun pre => pre <+: markL N wd rl) N w := fun l J Jx V hV hJ hJx hY h0 => by
  refine callsIn_of_wp_marks Tryd.func94 rfl trivial ?_ rfl
  simp only [Tryd.ntmps94, List.size_toArray, List.length_cons, List.length_nil, Nat.reduceAdd, Nat.reduceSub, Array.replicate_succ, Array.replicate_zero, List.push_toArray, List.append_toArray, List.nil_append, List.cons_append]
  have hN2 : N ≤ 16384 := by have := Nat.mul_le_mul hwd.1.2 hwd.2.2; omega
  obtain ⟨V0, hV0⟩ : ∃ V0, V.alloc (.cells #[.func (.yield l) #[] #[]] 56) = V0 := ⟨_, rfl⟩
  have B0 : Below V.heap.size V V0 := by rw [← hV0]; exact box1 _ _
  have Y0 : Boxed V0 V.heap.size 56 (.func (.yield l) #[] #[]) := by rw [← hV0]; exact Boxed.new V 56 _
  have z0 : V0.heap.size = V.heap.size + 1 := by rw [← hV0]; simp
  have BV := bt hV B0
  have d0 := hd.upto BV
  have E0 := boxed_upto hE BV hE.lt
  have F0 := boxed_upto hF BV hF.lt
  have R0 := hR.kept BV
  have j0 : J [] V0 := own_below hJ h0 B0
  obtain ⟨ea, ecap, rfl, hcap, hat⟩ := id R0
  have e0 := E0.cell
  have f0 := F0.cell
  have c6 := d0.c 6
  simp only [List.getElem?_toArray, List.getElem?_cons_zero, List.getElem?_cons_succ] at c6
  have hli : ((rl.length : Nat) : Int) ≤ 1000000 := by omega
  have HN := hide hN
  clear hN
  by_cases hz : rl.length = 0
  · have hzi : ((rl.length : Nat) : Int) = 0 := by omega
    have HJ := hide j0
    clear j0 hat hcap
    gi_wp2_with fail
    refine ⟨.tuple #[], by simp [results, Tryd.f94, go_sem], ⟨_, rfl⟩, .inl ⟨_, ?_, HJ.out⟩⟩
    rw [List.eq_nil_of_length_eq_zero hz]
    simp [markL, mkR]
  · have hzi : ¬ ((rl.length : Nat) : Int) = 0 := by omega
    have hzb : (((rl.length : Nat) : Int) == 0) = false := by simpa using hz
    have hmk := make_marks N hN2
    obtain ⟨V1, hV1⟩ : ∃ V1, (V0.alloc (.cells ((List.range N).map (fun _ => Value.bool false)).toArray 4)).alloc (.cells #[sl (V.heap.size + 1) N] 43) = V1 := ⟨_, rfl⟩
    have B1 : Below V0.heap.size V0 V1 := by rw [← hV1]; exact box2 _ _ _
    have z1 : V1.heap.size = V.heap.size + 3 := by rw [← hV1]; simp [z0]
    have M1 : Mks V1 (V.heap.size + 1) N (fun _ => false) := by
      rw [← hV1, ← z0]
      exact (made_marks N V0).upto (box1 _ _) (by simp)
    have X1 : Boxed V1 (V.heap.size + 1 + 1) 43 (sl (V.heap.size + 1) N) := by
      rw [← hV1]
      have := Boxed.new (V0.alloc (.cells ((List.range N).map (fun _ => Value.bool false)).toArray 4)) 43 (sl (V.heap.size + 1) N)
      rwa [World.size_alloc, z0] at this
    have E1 := boxed_upto E0 B1 E0.lt
    have e1 := E1.cell
    have HJ := hide j0
    have Hat := hide hat
    have HZ1 := hide z1
    clear j0 hat hcap z1
    gi_wp2_with fail
    clear hV1 hmk e1 e0 f0 c6 hV0
    refine wpIn_loop (fun a X => ∃ (i : Nat) (Ds : List Nat) (u6 u7 u22 u23 u24 u25 u26 u27 u28 u29 u30 u31 u32 u33 u34 u35 : Value), (i ≤ rl.length ∧ Lp V0 V1.heap.size (V.heap.size + 1 + 1) (V.heap.size + 1) N wd rl X i Ds) ∧ a = { tmps := #[.func (.yield l) #[] #[], ptr he, ptr hf, ptr V.heap.size, ptr (V.heap.size + 1 + 1), undef, u6, u7, undef, undef, .slice ea rl.length ecap, .int .i64 (rl.length : Nat), .bool false, ptr p, ptr p, .pointer (some ⟨p, 6, none⟩), sl b N, .int .i64 (N : Nat), sl (V.heap.size + 1) N, .slice ea rl.length ecap, .int .i64 (rl.length : Nat), .int .i64 (i : Nat), u22, u23, u24, u25, u26, u27, u28, u29, u30, u31, u32, u33, u34, u35, undef, undef, undef, undef, undef, undef, undef, undef, undef, undef, undef, undef, undef, undef, undef, undef, undef, undef, undef, undef, undef, undef, undef, undef, undef], defers := Ds.map mark }) (fun a _ => rl.length - (intOf (a.tmps.getD 21 undef)).toNat) ?start ?round
    case start =>
      refine ⟨0, [], undef, undef, undef, undef, undef, undef, undef, undef, undef, undef, undef, undef, undef, undef, undef, undef, ⟨Nat.zero_le _, ⟨⟨⟨B1, X1⟩, M1⟩, ⟨List.nodup_nil, by simp⟩, Nat.le_refl _⟩⟩, rfl⟩
    case round =>
      rintro a X ⟨i, Ds, u6, u7, u22, u23, u24, u25, u26, u27, u28, u29, u30, u31, u32, u33, u34, u35, ⟨hi, ⟨⟨hB, bX⟩, mX⟩, ⟨hnd, hDs⟩, hzX⟩, rfl⟩
      have HB := hide hB
      have dX := hd.upto (bt BV hB)
      have fX := (boxed_upto F0 hB F0.lt).cell
      have z1 := HZ1.out
      by_cases hlt : i < rl.length
      · obtain ⟨r, hr⟩ : ∃ r, rl[i]? = some r := ⟨_, List.getElem?_eq_getElem hlt⟩
        obtain ⟨g, rfl, hg, g0, g1, g2, g3⟩ := Hat.out i r hr
        have c0 := (hB.cell (p := ⟨g, i * 4, none⟩) hg).trans g0
        have c1 := (hB.cell (p := ⟨g, i * 4 + 1, none⟩) hg).trans g1
        have c2 := (hB.cell (p := ⟨g, i * 4 + 2, none⟩) hg).trans g2
        have c3 := (hB.cell (p := ⟨g, i * 4 + 3, none⟩) hg).trans g3
        have hii : (0 : Int) ≤ (i : Nat) ∧ ((i : Nat) : Int) < (rl.length : Nat) := by omega
        obtain ⟨x, y, a, c⟩ := r
        simp only at c0 c1 c2 c3
        obtain ⟨X2, hX2⟩ : ∃ X2, X.alloc (.cells #[.int .i64 x, .int .i64 y, .int .i64 a, .int .i64 c] 53) = X2 := ⟨_, rfl⟩
        have B2 : Below X.heap.size X X2 := by rw [← hX2]; exact box1 _ _
        have F2 : Four X2 X.heap.size x y a c := by rw [← hX2]; exact cells4 (Below.refl _ _)
        have f2 := (B2.cell (p := ⟨hf, 0, none⟩) (boxed_upto F0 hB F0.lt).lt).trans fX
        obtain ⟨⟨k0, k1, k2, k3⟩, -, -⟩ := id F2
        have hw1 := hwi _ (List.mem_of_getElem? hr)
        simp only at hw1
        have HRe := hide (reach_any x y a c (dX.upto B2) (gs_of hwd.1) (gs_of hwd.2) hw1)
        clear hB g0 g1 g2 g3 z1
        gi_wp2_with fail
        refine ⟨trivial, ?_⟩
        refine (callsIn_wide.2 HRe.out).mono ?_
        rintro e X3 ⟨rfl, hb3⟩
        clear c0 c1 c2 c3 k0 k1 k2 k3 f2 hX2 HRe
        obtain ⟨U, hU⟩ : ∃ U : Nat, max (x - 3) 0 = (U : Int) := ⟨(max (x - 3) 0).toNat, by omega⟩
        obtain ⟨Vv, hVv⟩ : ∃ U : Nat, max (y - 3) 0 = (U : Int) := ⟨(max (y - 3) 0).toNat, by omega⟩
        have hbd : (0 ≤ x ∧ 1 ≤ a ∧ x + a ≤ wd) ∧ 0 ≤ y ∧ 1 ≤ c ∧ y + c ≤ ht := by
          simp only [wi, Bool.and_eq_true] at hw1
          obtain ⟨q0, q1, q2⟩ := hw1
          have m0 := (may_iff _ _ _ _).1 q0
          have m1 := (has_iff _ _ _ _ _ _).1 q1
          have m2 := (has_iff _ _ _ _ _ _).1 q2
          omega
        obtain ⟨A, hA⟩ : ∃ A : Nat, x + a - (U : Int) = (A : Int) := ⟨(x + a - (U : Int)).toNat, by omega⟩
        obtain ⟨Bn, hBn⟩ : ∃ A : Nat, y + c - (Vv : Int) = (A : Int) := ⟨(y + c - (Vv : Int)).toNat, by omega⟩
        have hA1 : 1 ≤ A ∧ U + A ≤ wd := by omega
        have hB1 : 1 ≤ Bn ∧ Vv + Bn ≤ ht := by omega
        have HC := hide (fun k hk => cover (r := ⟨x, y, a, c⟩) (k := k) HN.out hA1.1 hA1.2 hB1.2 hU hVv hA hBn hk)
        rw [hU, hVv, hA, hBn]
        have hmy : may (U : Int) (Vv : Int) (A : Int) (Bn : Int) = true := by rw [may_iff]; omega
        clear hU hVv hA hBn hbd hw1
        gi_wp2_with fail
        refine ⟨trivial, ?_⟩
        refine (callsIn_wide.2 (cells_any _ _ _ _ _)).mono ?_
        rintro e X4 ⟨rfl, hX4⟩
        have zz3 := hb3.size
        have zz2 := B2.size
        have FC : Four X4 X3.heap.size U Vv A Bn := by rw [hX4]; exact cells4 (Below.refl _ _)
        have z4 : X4.heap.size = X3.heap.size + 1 := by rw [hX4]; simp
        have B4 : Below X.heap.size X X4 := by rw [hX4]; exact bt B2 (bt hb3 (box1 _ _))
        have HB4 : Below V0.heap.size V0 X4 := bt HB.out B4
        have b4 := boxed_upto bX B4 bX.lt
        have m4 := mX.upto B4 mX.lt
        have D4 : ∀ D ∈ Ds, V1.heap.size ≤ D ∧ X4.heap[D]? = some (.deferred (some [])) := fun D hD => ⟨(hDs D hD).1, (B4.block D (Array.getElem?_eq_some_iff.1 (hDs D hD).2).1).trans (hDs D hD).2⟩
        have hDl : ∀ D ∈ Ds, D < X4.heap.size := fun D hD => (Array.getElem?_eq_some_iff.1 (D4 D hD).2).1
        have zc := HZ1.out
        have zX4 := B4.size
        have z40 := HB4.size
        obtain ⟨C, hC⟩ : ∃ C, X3.heap.size = C := ⟨_, rfl⟩
        rw [hC] at FC z4 ⊢
        clear hX4 hC
        gi_wp2_with fail
        refine wpIn_rangeFunc_ownH rfl hn (gf := 81) (lb := #[ptr C]) rfl trivial (enters_of Tryd.func81 (by kernel_rfl) rfl)
          (cells_stopsF (n - 1) C U Vv A Bn X4 FC hmy) kB_t (kB_b (by omega)) (Below.refl _ _) (fun _ => rfl)
          (fun pre X' => (((Mks X' (V.heap.size + 1) N (fun k => mkR wd (rl.take i) k || pre.any (fun q => decide ((Vv + q.val / A) * wd + (U + q.val % A) = k))) ∧ Boxed X' (V.heap.size + 1 + 1) 43 (sl (V.heap.size + 1) N)) ∧ Below V0.heap.size V0 X') ∧ (∀ D ∈ Ds, V1.heap.size ≤ D ∧ X'.heap[D]? = some (.deferred (some [])))) ∧ X4.heap.size ≤ X'.heap.size)
          (fun c' pre X' => False)
          (OwnFrom.and (OwnFrom.and (OwnFrom.and (OwnFrom.and mks_own (Own.from (boxed_own _ _ _) _)) (ownFrom_below (Nat.le_refl _) (by omega))) (marks_own hDl)) (ownFrom_size _ _))
          (fun c' => ownFrom_pure _ _)
          ⟨⟨⟨⟨m4.congr (fun k _ => by simp), b4⟩, HB4⟩, D4⟩, Nat.le_refl _⟩
          (fun q a' X' => ∃ Bx, X4.heap.size ≤ Bx ∧ Two X' Bx ((U : Int) + (q.val % A : Nat)) ((Vv : Int) + (q.val / A : Nat)) ∧ a' = { tmps := #[.func (.yield l) #[] #[], ptr he, ptr hf, ptr V.heap.size, ptr (V.heap.size + 1 + 1), undef, ptr X.heap.size, ptr Bx, undef, undef, .slice (some ⟨g, 0, none⟩) rl.length ecap, .int .i64 (rl.length : Nat), .bool false, ptr p, ptr p, .pointer (some ⟨p, 6, none⟩), sl b N, .int .i64 (N : Nat), sl (V.heap.size + 1) N, .slice (some ⟨g, 0, none⟩) rl.length ecap, .int .i64 (rl.length : Nat), .int .i64 (i : Nat), .bool true, .pointer (some ⟨g, i * 4, none⟩), rct x y a c, ptr p, rct x y a c, rct U Vv A Bn, .func (.func 81) #[] #[ptr C], cel ((U : Int) + (q.val % A : Nat)) ((Vv : Int) + (q.val / A : Nat)), u30, u31, u32, u33, u34, u35, undef, undef, undef, undef, undef, undef, undef, undef, undef, undef, undef, undef, undef, undef, undef, undef, undef, undef, undef, undef, undef, undef, undef, undef, undef], defers := [] })
          (fun q a' _ X' Y row hs hg hr => by obtain ⟨Bx, e1, e2, e3⟩ := hs; exact ⟨Bx, e1, e2.own hg (fun r e => (hr r e).2), e3⟩)
          ?assign ?body ?done ?stop
        case assign =>
          rintro l' pre q X' K ⟨⟨⟨⟨hM, hbx⟩, hB'⟩, hD'⟩, hz'⟩ hK
          gi_wp2
          exact hK _ _ ((KeepsOthers.alloc _ _).from _) (kB_below (box1 X' _) (by omega)) ⟨⟨⟨⟨hM.upto (box1 _ _) hM.lt, hbx.alloc _⟩, hB'.alloc (by omega) _⟩, fun D hD => ⟨(hD' D hD).1, ((box1 X' _).block D (Array.getElem?_eq_some_iff.1 (hD' D hD).2).1).trans (hD' D hD).2⟩⟩, by simp; omega⟩ ⟨X'.heap.size, hz', Two.newAt rfl, rfl⟩
        case body =>
          rintro l' pre q a' X' hl' ⟨r', hr'⟩ ⟨⟨⟨⟨mX', bX'⟩, hB'⟩, hD'⟩, hz'⟩ ⟨Bx, hBx, T, rfl⟩ hlt'
          obtain ⟨k, hk⟩ : ∃ k : Nat, (Vv + q.val / A) * wd + (U + q.val % A) = k := ⟨_, rfl⟩
          have hqm : q.val % A < A := Nat.mod_lt _ hA1.1
          have hqd : q.val / A < Bn := by rw [Nat.div_lt_iff_lt_mul hA1.1]; exact q.isLt
          have hkN : k < N := by rw [HN.out, ← hk]; exact idx_lt (by omega) (by omega)
          have hkI : (0 : Int) ≤ (k : Nat) ∧ ((k : Nat) : Int) < (N : Nat) := by omega
          have dX' := hd.upto (bt BV hB')
          have HIx : Hid (∀ wx, Below X'.heap.size X' wx → Calls Tryd.prog 79 #[ptr p, cel ((U : Int) + (q.val % A : Nat)) ((Vv : Int) + (q.val / A : Nat))] wx fun e w' => e = .returned (.int .i64 (k : Nat)) ∧ Below wx.heap.size wx w') := hide fun wx hx => by
            refine findex_any _ _ (((Vv + q.val / A) * wd : Nat) : Int) k ?_ ?_ (dX'.upto hx)
            · rw [show ((Vv : Int) + (q.val / A : Nat)) * (wd : Int) = (((Vv + q.val / A) * wd : Nat) : Int) by push_cast; rfl, IntKind.wrap_i64]
              have : (Vv + q.val / A) * wd ≤ k := by omega
              omega
            · rw [IntKind.wrap_i64]; omega
          have HSx : Hid (∀ wx, Below X'.heap.size X' wx → (wx.cell? ⟨V.heap.size + 1 + 1, 0, none⟩ = some (sl (V.heap.size + 1) N) ∧ wx.cell? ⟨hf, 0, none⟩ = some (ptr p)) ∧ wx.cell? ⟨Bx, 0, none⟩ = some (.int .i64 ((U : Int) + (q.val % A : Nat))) ∧ wx.cell? ⟨Bx, 1, none⟩ = some (.int .i64 ((Vv : Int) + (q.val / A : Nat)))) := hide fun wx hx =>
            ⟨⟨(boxed_upto bX' hx bX'.lt).cell, (boxed_upto (boxed_upto F0 hB' F0.lt) hx (boxed_upto F0 hB' F0.lt).lt).cell⟩, (T.kept hx).1⟩
          obtain ⟨ux, hux⟩ : ∃ ux : Int, (U : Int) + (q.val % A : Nat) = ux := ⟨_, rfl⟩
          obtain ⟨vy, hvy⟩ : ∃ vy : Int, (Vv : Int) + (q.val / A : Nat) = vy := ⟨_, rfl⟩
          rw [hux, hvy] at HIx HSx ⊢
          clear hux hvy hqm hqd
          have hfl : hf < V.heap.size + 1 := by have := F0.lt; omega
          gi_wp2_with fail
          refine wpIn_only ?_
          refine wpIn_region_heldR (S := fun wx => (wx.cell? ⟨V.heap.size + 1 + 1, 0, none⟩ = some (sl (V.heap.size + 1) N) ∧ wx.cell? ⟨hf, 0, none⟩ = some (ptr p)) ∧ wx.cell? ⟨Bx, 0, none⟩ = some (.int .i64 ux) ∧ wx.cell? ⟨Bx, 1, none⟩ = some (.int .i64 vy)) only_in (by kernel_rfl) (by kernel_rfl) (HSx.out _ (Below.refl _ _).drew) (fun hHeld => ?_)
          refine wpAnyH_take (i := 0) (v := ?_) rfl (by kernel_rfl) (by kernel_rfl) (by kernel_rfl) (fun _ _ _ h => h.elim) (Or.inl ⟨by rfl, ?_⟩) (by assumption) ?_
          rotate_left
          · intro wx hSw
            try dsimp only at hSw
            go_simp
            try with_reducible rfl
          try simp only [Act.put, List.getElem_toArray, List.getElem_cons_zero, List.getElem_cons_succ, List.setIfInBounds_toArray, List.set_cons_zero, List.set_cons_succ]
          refine wpAnyH_take (i := 1) (v := ?_) rfl (by kernel_rfl) (by kernel_rfl) (by kernel_rfl) (fun _ _ _ h => h.elim) (Or.inl ⟨by rfl, ?_⟩) (by assumption) ?_
          rotate_left
          · intro wx hSw
            try dsimp only at hSw
            go_simp
            try with_reducible rfl
          try simp only [Act.put, List.getElem_toArray, List.getElem_cons_zero, List.getElem_cons_succ, List.setIfInBounds_toArray, List.set_cons_zero, List.set_cons_succ]
          refine wpAnyH_take (i := 2) (v := ?_) rfl (by kernel_rfl) (by kernel_rfl) (by kernel_rfl) (fun _ _ _ h => h.elim) (Or.inl ⟨by rfl, ?_⟩) (by assumption) ?_
          rotate_left
          · intro wx hSw
            try dsimp only at hSw
            go_simp
            try with_reducible rfl
          try simp only [Act.put, List.getElem_toArray, List.getElem_cons_zero, List.getElem_cons_succ, List.setIfInBounds_toArray, List.set_cons_zero, List.set_cons_succ]
          refine wpAnyH_ready (rs := [3]) (by kernel_rfl) (by simp) ?_
          refine AllReadyH.cons rfl (fun K hK => ?_) ?_
          · go_simp
            refine (HIx.out _ (Below.refl _ _).drew).mono ?_
            rintro e z1 ⟨rfl, s3⟩
            have hX1 : Below X'.heap.size X' z1 := below_undrew s3
            have m1 := (mX'.upto hX1 mX'.lt).cell hkN
            have f1 := (mX'.upto hX1 mX'.lt).f k
            clear s3
            try go_wp2_with fail
            refine hK.out _ _ ?_ (fun hHeld => ?_)
            · first | exact HSx.out _ (Below.refl _ _).drew | exact HSx.out _ hX1 | (obtain ⟨⟨q1, q2⟩, q3, q4⟩ := HSx.out _ hX1; exact ⟨⟨cell_other q1 (by omega), cell_other q2 (by omega)⟩, cell_other q3 (by omega), cell_other q4 (by omega)⟩)
            clear hK K
            try simp only [Act.put, List.getElem_toArray, List.getElem_cons_zero, List.getElem_cons_succ, List.setIfInBounds_toArray, List.set_cons_zero, List.set_cons_succ]
            refine wpAnyH_take (i := 4) (v := ?_) rfl (by kernel_rfl) (by kernel_rfl) (by kernel_rfl) (fun _ _ _ h => h.elim) (Or.inl ⟨by rfl, ?_⟩) (by assumption) ?_
            rotate_left
            · intro wx hSw
              try dsimp only at hSw
              go_simp
              try with_reducible rfl
            try simp only [Act.put, List.getElem_toArray, List.getElem_cons_zero, List.getElem_cons_succ, List.setIfInBounds_toArray, List.set_cons_zero, List.set_cons_succ]
            refine wpAnyH_ready (rs := [5]) (by kernel_rfl) (by simp) ?_
            refine AllReadyH.cons rfl (fun K hK => ?_) ?_
            · go_simp
              refine hK.out _ _ ?_ (fun hHeld => ?_)
              · first | exact HSx.out _ (Below.refl _ _).drew | exact HSx.out _ hX1 | (obtain ⟨⟨q1, q2⟩, q3, q4⟩ := HSx.out _ hX1; exact ⟨⟨cell_other q1 (by omega), cell_other q2 (by omega)⟩, cell_other q3 (by omega), cell_other q4 (by omega)⟩)
              clear hK K
              try simp only [Act.put, List.getElem_toArray, List.getElem_cons_zero, List.getElem_cons_succ, List.setIfInBounds_toArray, List.set_cons_zero, List.set_cons_succ]
              refine wpAnyH_done (by kernel_rfl) ?_ _
              dsimp only [Only, Exit.then]
              gi_wp2_with fail
              refine ⟨((keeps_below hX1).trans (KeepsOthers.setCell _ _ _)).from _, kB_t (kB_below hX1 (by omega)) (kB_set _ _ (by simp; omega)), ⟨⟨⟨⟨((mX'.upto hX1 mX'.lt).set hkN true).congr (fun j hj => ?_), (Below.heap_setCell _ _ _ _ (by simp)).trans (boxed_upto bX' hX1 bX'.lt)⟩, (bt hB' hX1).setCell (p := ⟨V.heap.size + 1, k, none⟩) (by simp; omega) _⟩, fun D hD => ⟨(hD' D hD).1, ?_⟩⟩, ?_⟩⟩
              · rw [List.any_append]
                by_cases hjk : j = k
                · simp [hjk, hk]
                · simp [hjk, hk, Ne.symm hjk]
              · have h1 := (hD' D hD).1
                refine (Below.heap_setCell _ _ _ _ (by simp; omega)).trans ?_
                exact (hX1.block D (Array.getElem?_eq_some_iff.1 (hD' D hD).2).1).trans (hD' D hD).2
              · have h1 := hX1.size
                simp [World.setCell]; omega
            exact AllReadyH.nil
          exact AllReadyH.nil
        case done =>
          rintro D xs X' hD rfl ⟨⟨⟨⟨mX', bX'⟩, hB'⟩, hD'⟩, hz'⟩ hK
          gi_wp2_with fail
          refine ⟨⟨i + 1, D :: Ds, _, _, _, _, _, _, _, _, _, _, _, _, _, _, _, _, ⟨by omega, ⟨⟨hB', bX'⟩, mX'.congr (fun k hk => ?_)⟩, ⟨List.nodup_cons.2 ⟨fun hm => ?_, hnd⟩, fun D' hm => ?_⟩, by omega⟩, rfl⟩, ?_⟩
          · rw [HC.out k hk, mkR, mkR, take_next _ hlt, List.any_append]
            have e : rl[i] = ⟨x, y, a, c⟩ := by
              have := hr
              rw [List.getElem?_eq_getElem hlt] at this
              exact Option.some.inj this
            simp [e]
          · have := hDl D hm
            omega
          · rcases List.mem_cons.1 hm with rfl | hm
            · exact ⟨by omega, hK⟩
            · exact hD' D' hm
          · simp [intOf]; omega
        case stop =>
          rintro D c' pre X' hD hpre hno hK
          exact hno.elim
      · obtain rfl : i = rl.length := by omega
        have bc := bX.cell
        have HJX : Hid (J [] X) := hide (own_below hJ HJ.out hB)
        have YX := boxed_upto Y0 hB Y0.lt
        have FX := boxed_upto F0 hB F0.lt
        clear hB z1
        gi_wp2_with fail
        refine ⟨trivial, ?_⟩
        refine (callsIn_wide.2 (back_any _ _ _)).mono ?_
        rintro e X5 ⟨rfl, hX5⟩
        have B5 : Below X.heap.size X X5 := by rw [hX5]; exact box1 _ _
        have z5 : X5.heap.size = X.heap.size + 1 := by rw [hX5]; simp
        have K5 : Boxed X5 X.heap.size 43 (sl (V.heap.size + 1) N) := by rw [hX5]; exact Boxed.new X 43 _
        have M5 : Mks X5 (V.heap.size + 1) N (mkR wd rl) := by
          have := mX.upto B5 mX.lt
          rwa [List.take_of_length_le (Nat.le_refl _)] at this
        have D5 : ∀ D ∈ Ds, V1.heap.size ≤ D ∧ X5.heap[D]? = some (.deferred (some [])) := fun D hD => ⟨(hDs D hD).1, (B5.block D (Array.getElem?_eq_some_iff.1 (hDs D hD).2).1).trans (hDs D hD).2⟩
        have hDl : ∀ D ∈ Ds, D < X5.heap.size := fun D hD => (Array.getElem?_eq_some_iff.1 (D5 D hD).2).1
        have zc := HZ1.out
        have zp := hd.lt
        have zf := hF.lt
        have zV := hV.size
        have zB := HB.out.size
        clear hX5 bc
        gi_wp2_with fail
        refine wpIn_rangeFunc_ownH rfl hn (gf := 102) (lb := #[ptr X.heap.size]) rfl trivial (enters_of Tryd.func102 (by kernel_rfl) rfl)
          (back_stops (n - 1) X.heap.size (V.heap.size + 1) N (mkR wd rl) X5 hN2 K5 M5) kB2_t (fun W l o o' h1 h2 h3 h4 => ⟨kB_b (w := X5) (by omega) W l o o' h1 h2 h3 h4, kB_b (w := X5) (by omega) W l o o' h1 h2 h3 h4⟩) (Below.refl _ _) (fun _ => rfl)
          (fun pre X' => (((J (filt pre) X' ∧ Boxed X' V.heap.size 56 (.func (.yield l) #[] #[])) ∧ (Boxed X' hf 58 (ptr p) ∧ Fd X' p q cl wd ht b N ep)) ∧ (∀ D ∈ Ds, V1.heap.size ≤ D ∧ X'.heap[D]? = some (.deferred (some [])))) ∧ X5.heap.size ≤ X'.heap.size)
          (fun c' pre X' => (c' = .ret ∧ Jx (filt pre) X') ∧ (∀ D ∈ Ds, V1.heap.size ≤ D ∧ X'.heap[D]? = some (.deferred (some []))))
          (OwnFrom.and (OwnFrom.and (OwnFrom.and (OwnFrom.and (own_map (own_wide hJ (by omega)) filt) (Own.from (boxed_own _ _ _) _)) (OwnFrom.and (Own.from (boxed_own _ _ _) _) block_own)) (marks_own hDl)) (ownFrom_size _ _))
          (fun c' => OwnFrom.and (OwnFrom.and (ownFrom_pure _ _) (own_map (own_wide hJx (by omega)) filt)) (marks_own hDl))
          ⟨⟨⟨⟨own_below hJ HJX.out B5, boxed_upto YX B5 YX.lt⟩, boxed_upto FX B5 FX.lt, dX.upto B5⟩, D5⟩, Nat.le_refl _⟩
          (fun q a' X' => a' = { tmps := #[.func (.yield l) #[] #[], ptr he, ptr hf, ptr V.heap.size, ptr (V.heap.size + 1 + 1), undef, u6, u7, .int .i64 (q.1.val : Nat), .bool q.2, .slice ea rl.length ecap, .int .i64 (rl.length : Nat), .bool false, ptr p, ptr p, .pointer (some ⟨p, 6, none⟩), sl b N, .int .i64 (N : Nat), sl (V.heap.size + 1) N, .slice ea rl.length ecap, .int .i64 (rl.length : Nat), .int .i64 (rl.length : Nat), .bool false, u23, u24, u25, u26, u27, u28, u29, u30, u31, u32, u33, u34, u35, sl (V.heap.size + 1) N, .func (.func 102) #[] #[ptr X.heap.size], .int .i64 (q.1.val : Nat), .bool q.2, undef, undef, undef, undef, undef, undef, undef, undef, undef, undef, undef, undef, undef, undef, undef, undef, undef, undef, undef, undef, undef], defers := [] })
          (fun q a' _ X' Y row hs hg hr => hs)
          ?assign ?body ?done ?stop
        case assign =>
          rintro l' pre q X' K hI hK
          gi_wp2
          exact hK _ _ ((KeepsOthers.refl _).from _) ⟨rfl, rfl⟩ hI rfl
        case body =>
          rintro l' pre ⟨⟨k, hk⟩, v⟩ a' X' hl' ⟨r', hr'⟩ ⟨⟨⟨⟨hJX, bY⟩, bF, dX'⟩, hD'⟩, hz'⟩ rfl hlt'
          have hne := lat_some X'
          cases v
          · have Hf : Hid (filt (pre ++ [(⟨k, hk⟩, false)]) = filt pre) := hide (by rw [filt_snoc]; simp)
            have HJ' := hide hJX
            clear hJX
            gi_wp2_with fail
            refine wpIn_region_lat (by kernel_rfl) (by kernel_rfl) (by kernel_rfl) ?_
            repeat (refine wpQuietIn_step (fun _ _ _ _ => trivial) (fun K hK => ?_); go_simp; refine hK _ ?_; clear hK K)
            refine wpQuietIn_nil ?_
            rintro _ ⟨m, rfl⟩
            gi_wp2_with fail
            refine ⟨(keeps_below m.h).from _, ⟨kB_below m.h (by omega), kB_below m.h (by omega)⟩, ⟨⟨⟨⟨?_, boxed_upto bY m.h bY.lt⟩, boxed_upto bF m.h bF.lt, dX'.upto m.h⟩, fun D hD => ⟨(hD' D hD).1, (m.h.block D (Array.getElem?_eq_some_iff.1 (hD' D hD).2).1).trans (hD' D hD).2⟩⟩, Nat.le_trans hz' m.h.size⟩⟩
            rw [Hf.out]
            exact own_below hJ HJ'.out m.h
          · have Hf : Hid (filt (pre ++ [(⟨k, hk⟩, true)]) = filt pre ++ [⟨k, hk⟩]) := hide (by rw [filt_snoc]; simp)
            obtain ⟨fn, tmps, asg, bd, hy, hR⟩ := hY (filt pre) ⟨k, hk⟩ X'.drew (own_below hJ hJX (Below.refl _ _).drew) (Nat.lt_of_le_of_lt (filt_len pre) hlt')
            dsimp only [encK] at hy
            have hrem : (k : Int).tmod (wd : Int) = ((k % wd : Nat) : Int) := rfl
            have hquo : IntKind.i64.wrap ((k : Int) / (wd : Int)) = ((k / wd : Nat) : Int) := by
              rw [← Int.natCast_ediv]
              exact wrap_nat (Nat.le_trans (Nat.div_le_self k wd) (by omega))
            have hwd0 : ¬ wd = 0 := by omega
            obtain ⟨kx, hkx⟩ : ∃ kx : Int, ((k % wd : Nat) : Int) = kx := ⟨_, rfl⟩
            obtain ⟨ky, hky⟩ : ∃ ky : Int, ((k / wd : Nat) : Int) = ky := ⟨_, rfl⟩
            rw [hkx] at hrem hy
            rw [hky] at hquo hy
            clear hkx hky
            have cY := bY.cell
            have cF := bF.cell
            have c4 := dX'.c 4
            simp only [List.getElem?_toArray, List.getElem?_cons_zero, List.getElem?_cons_succ] at c4
            have hkI : (0 : Int) ≤ (k : Nat) ∧ ((k : Nat) : Int) < (N : Nat) := by omega
            have hwI : (1 : Int) ≤ (wd : Nat) ∧ ((wd : Nat) : Int) ≤ 128 := by omega
            clear hJX
            gi_wp2_with fail
            refine wpIn_only ?_
            refine wpIn_region_goes (S := fun wx => (wx.cell? ⟨V.heap.size, 0, none⟩ = some (.func (.yield l) #[] #[]) ∧ wx.cell? ⟨hf, 0, none⟩ = some (ptr p)) ∧ wx.cell? ⟨p, 4, none⟩ = some (.int .i64 (wd : Nat))) (by kernel_rfl) ?_
            have hHeld : (X'.drew.cell? ⟨V.heap.size, 0, none⟩ = some (.func (.yield l) #[] #[]) ∧ X'.drew.cell? ⟨hf, 0, none⟩ = some (ptr p)) ∧ X'.drew.cell? ⟨p, 4, none⟩ = some (.int .i64 (wd : Nat)) := ⟨⟨cY, cF⟩, c4⟩
            clear cY cF c4
            refine GoesR.take (i := 0) (v := ?_) rfl (by kernel_rfl) (by kernel_rfl) (by kernel_rfl) (by kernel_rfl) (Or.inl ⟨by rfl, ?_⟩) (by assumption) ?_
            rotate_left
            · intro wx hSw
              try dsimp only at hSw
              go_simp
              try with_reducible rfl
            try simp only [Act.put, List.getElem_toArray, List.getElem_cons_zero, List.getElem_cons_succ, List.setIfInBounds_toArray, List.set_cons_zero, List.set_cons_succ]
            refine GoesR.take (i := 1) (v := ?_) rfl (by kernel_rfl) (by kernel_rfl) (by kernel_rfl) (by kernel_rfl) (Or.inl ⟨by rfl, ?_⟩) (by assumption) ?_
            rotate_left
            · intro wx hSw
              try dsimp only at hSw
              go_simp
              try with_reducible rfl
            try simp only [Act.put, List.getElem_toArray, List.getElem_cons_zero, List.getElem_cons_succ, List.setIfInBounds_toArray, List.set_cons_zero, List.set_cons_succ]
            refine GoesR.take (i := 2) (v := ?_) rfl (by kernel_rfl) (by kernel_rfl) (by kernel_rfl) (by kernel_rfl) (Or.inl ⟨by rfl, ?_⟩) (by assumption) ?_
            rotate_left
            · intro wx hSw
              try dsimp only at hSw
              go_simp
              try with_reducible rfl
            try simp only [Act.put, List.getElem_toArray, List.getElem_cons_zero, List.getElem_cons_succ, List.setIfInBounds_toArray, List.set_cons_zero, List.set_cons_succ]
            refine GoesR.take (i := 3) (v := ?_) rfl (by kernel_rfl) (by kernel_rfl) (by kernel_rfl) (by kernel_rfl) (Or.inl ⟨by rfl, ?_⟩) (by assumption) ?_
            rotate_left
            · intro wx hSw
              try dsimp only at hSw
              go_simp
              try with_reducible rfl
            try simp only [Act.put, List.getElem_toArray, List.getElem_cons_zero, List.getElem_cons_succ, List.setIfInBounds_toArray, List.set_cons_zero, List.set_cons_succ]
            refine GoesR.take (i := 4) (v := ?_) rfl (by kernel_rfl) (by kernel_rfl) (by kernel_rfl) (by kernel_rfl) (Or.inl ⟨by rfl, ?_⟩) (by assumption) ?_
            rotate_left
            · intro wx hSw
              try dsimp only at hSw
              go_simp
              try with_reducible rfl
            try simp only [Act.put, List.getElem_toArray, List.getElem_cons_zero, List.getElem_cons_succ, List.setIfInBounds_toArray, List.set_cons_zero, List.set_cons_succ]
            refine GoesR.take (i := 5) (v := ?_) rfl (by kernel_rfl) (by kernel_rfl) (by kernel_rfl) (by kernel_rfl) (Or.inl ⟨by rfl, ?_⟩) (by assumption) ?_
            rotate_left
            · intro wx hSw
              try dsimp only at hSw
              go_simp
              try with_reducible rfl
            try simp only [Act.put, List.getElem_toArray, List.getElem_cons_zero, List.getElem_cons_succ, List.setIfInBounds_toArray, List.set_cons_zero, List.set_cons_succ]
            refine GoesR.take (i := 6) (v := ?_) rfl (by kernel_rfl) (by kernel_rfl) (by kernel_rfl) (by kernel_rfl) (Or.inl ⟨by rfl, ?_⟩) (by assumption) ?_
            rotate_left
            · intro wx hSw
              try dsimp only at hSw
              go_simp
              try with_reducible rfl
            try simp only [Act.put, List.getElem_toArray, List.getElem_cons_zero, List.getElem_cons_succ, List.setIfInBounds_toArray, List.set_cons_zero, List.set_cons_succ]
            refine GoesR.take (i := 7) (v := ?_) rfl (by kernel_rfl) (by kernel_rfl) (by kernel_rfl) (by kernel_rfl) (Or.inl ⟨by rfl, ?_⟩) (by assumption) ?_
            rotate_left
            · intro wx hSw
              try dsimp only at hSw
              go_simp
              try with_reducible rfl
            try simp only [Act.put, List.getElem_toArray, List.getElem_cons_zero, List.getElem_cons_succ, List.setIfInBounds_toArray, List.set_cons_zero, List.set_cons_succ]
            refine GoesR.take (i := 8) (v := ?_) rfl (by kernel_rfl) (by kernel_rfl) (by kernel_rfl) (by kernel_rfl) (Or.inl ⟨by rfl, ?_⟩) (by assumption) ?_
            rotate_left
            · intro wx hSw
              try dsimp only at hSw
              go_simp
              try with_reducible rfl
            try simp only [Act.put, List.getElem_toArray, List.getElem_cons_zero, List.getElem_cons_succ, List.setIfInBounds_toArray, List.set_cons_zero, List.set_cons_succ]
            refine GoesR.take (i := 9) (v := ?_) rfl (by kernel_rfl) (by kernel_rfl) (by kernel_rfl) (by kernel_rfl) (Or.inl ⟨by rfl, ?_⟩) (by assumption) ?_
            rotate_left
            · intro wx hSw
              try dsimp only at hSw
              go_simp
              try with_reducible rfl
            try simp only [Act.put, List.getElem_toArray, List.getElem_cons_zero, List.getElem_cons_succ, List.setIfInBounds_toArray, List.set_cons_zero, List.set_cons_succ]
            refine GoesR.take (i := 10) (v := ?_) rfl (by kernel_rfl) (by kernel_rfl) (by kernel_rfl) (by kernel_rfl) (Or.inl ⟨by rfl, ?_⟩) (by assumption) ?_
            rotate_left
            · intro wx hSw
              try dsimp only at hSw
              go_simp
              try with_reducible rfl
            try simp only [Act.put, List.getElem_toArray, List.getElem_cons_zero, List.getElem_cons_succ, List.setIfInBounds_toArray, List.set_cons_zero, List.set_cons_succ]
            refine GoesR.take (i := 11) (v := ?_) rfl (by kernel_rfl) (by kernel_rfl) (by kernel_rfl) (by kernel_rfl) (Or.inl ⟨by rfl, ?_⟩) (by assumption) ?_
            rotate_left
            · intro wx hSw
              try dsimp only at hSw
              go_simp
              try with_reducible rfl
            try simp only [Act.put, List.getElem_toArray, List.getElem_cons_zero, List.getElem_cons_succ, List.setIfInBounds_toArray, List.set_cons_zero, List.set_cons_succ]
            refine GoesR.take (i := 12) (v := ?_) rfl (by kernel_rfl) (by kernel_rfl) (by kernel_rfl) (by kernel_rfl) (Or.inl ⟨by rfl, ?_⟩) (by assumption) ?_
            rotate_left
            · intro wx hSw
              try dsimp only at hSw
              go_simp
              try with_reducible rfl
            try simp only [Act.put, List.getElem_toArray, List.getElem_cons_zero, List.getElem_cons_succ, List.setIfInBounds_toArray, List.set_cons_zero, List.set_cons_succ]
            refine GoesR.take (i := 13) (v := ?_) rfl (by kernel_rfl) (by kernel_rfl) (by kernel_rfl) (by kernel_rfl) (Or.inl ⟨by rfl, ?_⟩) (by assumption) ?_
            rotate_left
            · intro wx hSw
              try dsimp only at hSw
              go_simp
              try with_reducible rfl
            try simp only [Act.put, List.getElem_toArray, List.getElem_cons_zero, List.getElem_cons_succ, List.setIfInBounds_toArray, List.set_cons_zero, List.set_cons_succ]
            refine GoesR.take (i := 14) (v := ?_) rfl (by kernel_rfl) (by kernel_rfl) (by kernel_rfl) (by kernel_rfl) (Or.inl ⟨by rfl, ?_⟩) (by assumption) ?_
            rotate_left
            · intro wx hSw
              try dsimp only at hSw
              go_simp
              try with_reducible rfl
            try simp only [Act.put, List.getElem_toArray, List.getElem_cons_zero, List.getElem_cons_succ, List.setIfInBounds_toArray, List.set_cons_zero, List.set_cons_succ]
            refine GoesR.take (i := 15) (v := ?_) rfl (by kernel_rfl) (by kernel_rfl) (by kernel_rfl) (by kernel_rfl) (Or.inl ⟨by rfl, ?_⟩) (by assumption) ?_
            rotate_left
            · intro wx hSw
              try dsimp only at hSw
              go_simp
              try with_reducible rfl
            try simp only [Act.put, List.getElem_toArray, List.getElem_cons_zero, List.getElem_cons_succ, List.setIfInBounds_toArray, List.set_cons_zero, List.set_cons_succ]
            refine GoesR.take (i := 16) (v := ?_) rfl (by kernel_rfl) (by kernel_rfl) (by kernel_rfl) (by kernel_rfl) (Or.inl ⟨by rfl, ?_⟩) (by assumption) ?_
            rotate_left
            · intro wx hSw
              try dsimp only at hSw
              go_simp
              try with_reducible rfl
            try simp only [Act.put, List.getElem_toArray, List.getElem_cons_zero, List.getElem_cons_succ, List.setIfInBounds_toArray, List.set_cons_zero, List.set_cons_succ]
            refine GoesR.take (i := 17) (v := ?_) rfl (by kernel_rfl) (by kernel_rfl) (by kernel_rfl) (by kernel_rfl) (Or.inl ⟨by rfl, ?_⟩) (by assumption) ?_
            rotate_left
            · intro wx hSw
              try dsimp only at hSw
              go_simp
              try with_reducible rfl
            try simp only [Act.put, List.getElem_toArray, List.getElem_cons_zero, List.getElem_cons_succ, List.setIfInBounds_toArray, List.set_cons_zero, List.set_cons_succ]
            refine GoesR.one (i := 18) (by kernel_rfl) rfl (fun K hK => ?_)
            go_simp
            refine ⟨fun h => (by cases h), ?_⟩
            refine (round_any _ hR).mono ?_
            rintro e Y ⟨hkp, (⟨rfl, hJ3, hk3⟩ | ⟨rfl, hJ3, hk3⟩)⟩
            · have hHeld : (Y.cell? ⟨V.heap.size, 0, none⟩ = some (.func (.yield l) #[] #[]) ∧ Y.cell? ⟨hf, 0, none⟩ = some (ptr p)) ∧ Y.cell? ⟨p, 4, none⟩ = some (.int .i64 (wd : Nat)) := ⟨⟨Boxed.cell (t := 56) (hkp.at (Nat.le_refl _) bY), Boxed.cell (t := 58) (hk3.2.trans bF)⟩, Fd.c (q := q) (cl := cl) (W := wd) (H := ht) (b := b) (n := N) (ep := ep) (hk3.1.trans dX') 4⟩
              have hkp' : Keep V.heap.size X' Y := ⟨hkp.1, hkp.2⟩
              have hDY : ∀ D ∈ Ds, V1.heap.size ≤ D ∧ Y.heap[D]? = some (.deferred (some [])) := fun D hD => ⟨(hD' D hD).1, hkp'.at (by have := (hD' D hD).1; omega) (hD' D hD).2⟩
              have HJ3 := hide hJ3
              clear hJ3 hR hy
              refine hK.out _ _ hHeld ?_
              clear hK K
              try simp only [Act.put, List.getElem_toArray, List.getElem_cons_zero, List.getElem_cons_succ, List.setIfInBounds_toArray, List.set_cons_zero, List.set_cons_succ]
              refine GoesR.take (i := 19) (v := ?_) rfl (by kernel_rfl) (by kernel_rfl) (by kernel_rfl) (by kernel_rfl) (Or.inl ⟨by rfl, ?_⟩) (by assumption) ?_
              rotate_left
              · intro wx hSw
                try dsimp only at hSw
                go_simp
                try with_reducible rfl
              try simp only [Act.put, List.getElem_toArray, List.getElem_cons_zero, List.getElem_cons_succ, List.setIfInBounds_toArray, List.set_cons_zero, List.set_cons_succ]
              refine GoesR.take (i := 20) (v := ?_) rfl (by kernel_rfl) (by kernel_rfl) (by kernel_rfl) (by kernel_rfl) (Or.inl ⟨by rfl, ?_⟩) (by assumption) ?_
              rotate_left
              · intro wx hSw
                try dsimp only at hSw
                go_simp
                try with_reducible rfl
              try simp only [Act.put, List.getElem_toArray, List.getElem_cons_zero, List.getElem_cons_succ, List.setIfInBounds_toArray, List.set_cons_zero, List.set_cons_succ]
              refine GoesR.done (by kernel_rfl) ?_ _
              dsimp only [Only, Exit.then]
              gi_wp2_with fail
              refine ⟨(hkp'.mono (by omega)).from, ⟨hkp'.2 _ (by omega) (by omega), hkp'.2 _ (by omega) (by omega)⟩, ⟨⟨⟨⟨?_, hkp'.at (Nat.le_refl _) bY⟩, hk3.2.trans bF, hk3.1.trans dX'⟩, hDY⟩, Nat.le_trans hz' hkp'.1⟩⟩
              rw [Hf.out]
              exact HJ3.out
            · have hHeld : (Y.cell? ⟨V.heap.size, 0, none⟩ = some (.func (.yield l) #[] #[]) ∧ Y.cell? ⟨hf, 0, none⟩ = some (ptr p)) ∧ Y.cell? ⟨p, 4, none⟩ = some (.int .i64 (wd : Nat)) := ⟨⟨Boxed.cell (t := 56) (hkp.at (Nat.le_refl _) bY), Boxed.cell (t := 58) (hk3.2.trans bF)⟩, Fd.c (q := q) (cl := cl) (W := wd) (H := ht) (b := b) (n := N) (ep := ep) (hk3.1.trans dX') 4⟩
              have hkp' : Keep V.heap.size X' Y := ⟨hkp.1, hkp.2⟩
              have hDY : ∀ D ∈ Ds, V1.heap.size ≤ D ∧ Y.heap[D]? = some (.deferred (some [])) := fun D hD => ⟨(hD' D hD).1, hkp'.at (by have := (hD' D hD).1; omega) (hD' D hD).2⟩
              have HJ3 := hide hJ3
              clear hJ3 hR hy
              refine hK.out _ _ hHeld ?_
              clear hK K
              try simp only [Act.put, List.getElem_toArray, List.getElem_cons_zero, List.getElem_cons_succ, List.setIfInBounds_toArray, List.set_cons_zero, List.set_cons_succ]
              refine GoesR.take (i := 19) (v := ?_) rfl (by kernel_rfl) (by kernel_rfl) (by kernel_rfl) (by kernel_rfl) (Or.inl ⟨by rfl, ?_⟩) (by assumption) ?_
              rotate_left
              · intro wx hSw
                try dsimp only at hSw
                go_simp
                try with_reducible rfl
              try simp only [Act.put, List.getElem_toArray, List.getElem_cons_zero, List.getElem_cons_succ, List.setIfInBounds_toArray, List.set_cons_zero, List.set_cons_succ]
              refine GoesR.take (i := 20) (v := ?_) rfl (by kernel_rfl) (by kernel_rfl) (by kernel_rfl) (by kernel_rfl) (Or.inl ⟨by rfl, ?_⟩) (by assumption) ?_
              rotate_left
              · intro wx hSw
                try dsimp only at hSw
                go_simp
                try with_reducible rfl
              try simp only [Act.put, List.getElem_toArray, List.getElem_cons_zero, List.getElem_cons_succ, List.setIfInBounds_toArray, List.set_cons_zero, List.set_cons_succ]
              refine GoesR.done (by kernel_rfl) ?_ _
              dsimp only [Only, Exit.then]
              gi_wp2_with fail
              refine ⟨(hkp'.mono (by omega)).from, ⟨rfl, ?_⟩, hDY⟩
              rw [Hf.out]
              exact HJ3.out
        case done =>
          rintro D xs X' hD rfl ⟨⟨⟨⟨hJX, bY⟩, bF, dX'⟩, hD'⟩, hz'⟩ hK
          have HE := hide hJX
          rw [filt_back] at HE
          clear hJX
          gi_wp2_with fail
          refine leave_marks (c := V1.heap.size) (fun X'' => J (markL N wd rl) X'') (fun X'' D' h1 h2 h3 => hJ.putObj _ h3 (by omega) h2 rfl) (fun X'' h => ⟨.tuple #[], by simp [results, Tryd.f94, go_sem], ⟨_, rfl⟩, .inl ⟨_, rfl, h⟩⟩) (D :: Ds) X' (List.nodup_cons.2 ⟨fun hm => by have := hDl D hm; omega, hnd⟩) (fun D' hm => ?_) HE.out
          rcases List.mem_cons.1 hm with rfl | hm
          · exact ⟨by omega, hK⟩
          · exact hD' D' hm
        case stop =>
          rintro D c' pre X' hD hpre ⟨⟨rfl, hJX⟩, hD'⟩ hK
          have HE := hide hJX
          have HP := hide (filt_pre hpre)
          rw [filt_back] at HP
          clear hJX
          gi_wp2
          refine leave_marks (c := V1.heap.size) (fun X'' => Jx (filt pre) X'') (fun X'' D' h1 h2 h3 => hJx.putObj _ h3 (by omega) h2 rfl) (fun X'' h => ⟨.tuple #[], by simp [results, Tryd.f94, go_sem], ⟨_, rfl⟩, .inr ⟨_, HP.out, h⟩⟩) (D :: Ds) X' (List.nodup_cons.2 ⟨fun hm => by have := hDl D hm; omega, hnd⟩) (fun D' hm => ?_) HE.out
          rcases List.mem_cons.1 hm with rfl | hm
          · exact ⟨by omega, hK⟩
          · exact hD' D' hm
end Go.Proofs.YtoheibfijpdmfaaDoor
