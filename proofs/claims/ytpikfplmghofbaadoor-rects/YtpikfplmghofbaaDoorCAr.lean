/-
  What cluster.Around hands back goes through: a cluster's neighbours to the four sides.
-/
import Derived.Test.YtpikfplmghofbaaDoorAllSeq
import Derived.Test.YtpikfplmghofbaaDoorAroundKeep
import Derived.Test.YtpikfplmghofbaaDoorRc
set_option linter.unusedSimpArgs false
namespace Go.Proofs.YtpikfplmghofbaaDoor
open Go.RowKit Go.Shelf
set_option linter.unusedVariables false
attribute [local go_sem] Oper.semAt_some
/-- Those to a side. -/
def flt (l : List (Fin 8)) : List (Fin 8) := l.filter (fun i => decide (i.val < 4))
theorem flt_lo (l : List (Fin 8)) {k : Fin 8} (h : k.val < 4) : flt (l ++ [k]) = flt l ++ [k] := by simp [flt, List.filter_append, h]
theorem flt_hi (l : List (Fin 8)) {k : Fin 8} (h : ¬ k.val < 4) : flt (l ++ [k]) = flt l := by simp [flt, List.filter_append, h]
theorem flt_len (l : List (Fin 8)) : (flt l).length ≤ l.length := List.length_filter_le _ _
theorem flt_pre {a b : List (Fin 8)} (h : a <+: b) : flt a <+: flt b := h.filter _
theorem flt_end {p0 l : List (Fin 8)} {t : Fin 8} (hl : l.Pairwise (fun a b => a.val < b.val)) (h : p0 ++ [t] <+: l) (ht : ¬ t.val < 4) : flt (p0 ++ [t]) = flt l := by
  obtain ⟨r, rfl⟩ := h
  rw [flt, flt, List.filter_append (p0 ++ [t]) r]
  have hr : r.filter (fun i => decide (i.val < 4)) = [] := by
    rw [List.filter_eq_nil_iff]
    intro a ha
    have h1 := (List.pairwise_append.1 hl).2.2 t (by simp) a ha
    rw [decide_eq_true_eq]
    omega
  rw [hr, List.append_nil]
theorem round_up (x y p q c d : Int) : (roundN x y p q c d 8).Pairwise (fun a b => a.val < b.val) := by
  have h : ((List.finRange 8).take 8).Pairwise (fun a b : Fin 8 => a.val < b.val) := by decide
  exact h.filter _
/-- The neighbours of a cluster, by their directions. -/
def nbs (W H x y : Int) : List (Fin 8) := if rB W H x y = true then flt (roundN x y 0 0 (clN W) (clN H) 8) else []
theorem caround_any (x y p q c d : Int) (w : World) : Calls Tryd.prog 24 #[cel x y, rct p q c d] w fun e w' => e = .returned (.func (.func 40) #[] #[ptr w.heap.size, ptr (w.heap.size + 1)]) ∧ w' = (w.alloc (.cells #[.int .i64 x, .int .i64 y] 27)).alloc (.cells #[.int .i64 p, .int .i64 q, .int .i64 c, .int .i64 d] 34) := by
  go_enter Tryd.func24, Tryd.ntmps24
  go_wp2_with fail
  go_ret
  exact ⟨rfl, rfl⟩
set_option maxRecDepth 100000 in
set_option maxHeartbeats 4000000 in
theorem car_seq (n p hq : Nat) (W H x y : Int) (tl : List Nat) (f : Int → Int → Option Int) (w : World) (hn : 1 ≤ n) (hP : Boxed w hq 29 (ptr p)) (hC : Two w (hq + 1) x y) (hw : Wl w p W H tl f) (ho : Offs w) :
    SeqOwn n 23 #[ptr hq, ptr (hq + 1)] (encA x y) (KB 0) (fun xs => xs = nbs W H x y) (fun pre => pre <+: nbs W H x y) 8 w := fun l J Jx V hV hJ hJx hY h0 => by
  refine callsIn_of_wp_marks Tryd.func23 rfl trivial ?_ rfl
  simp only [Tryd.ntmps23, List.size_toArray, List.length_cons, List.length_nil, Nat.reduceAdd, Nat.reduceSub, Array.replicate_succ, Array.replicate_zero, List.push_toArray, List.append_toArray, List.nil_append, List.cons_append]
  obtain ⟨L, hL⟩ : ∃ L, nbs W H x y = L := ⟨_, rfl⟩
  rw [hL]
  unfold nbs rB at hL
  obtain ⟨V0, hV0⟩ : ∃ V0, V.alloc (.cells #[.func (.yield l) #[] #[]] 61) = V0 := ⟨_, rfl⟩
  have B0 : Below V.heap.size V V0 := by rw [← hV0]; exact box1 _ _
  have Y0 : Boxed V0 V.heap.size 61 (.func (.yield l) #[] #[]) := by rw [← hV0]; exact Boxed.new V 61 _
  have z0 : V0.heap.size = V.heap.size + 1 := by rw [← hV0]; simp
  have hW0 : Below w.heap.size w V0 := bt hV B0
  have P0 := boxed_upto hP hW0 hP.lt
  have c0 := P0.cell
  have C0 := hC.kept hW0
  have O0 := ho.kept hW0
  have HC := hide (clus_is (hw.kept hW0))
  generalize clN W = a at HC hL
  generalize clN H = b at HC hL
  have HL := hide hL
  clear hw P0 hP hC ho hL
  gi_wp2_with fail
  refine ⟨trivial, ?_⟩
  refine (callsIn_wide.2 HC.out).mono ?_
  rintro e w1 ⟨rfl, hb1⟩
  clear hV0 HC c0
  obtain ⟨w2, h2⟩ : ∃ w2, w1.alloc (.cells #[.int .i64 0, .int .i64 0, .int .i64 a, .int .i64 b] 34) = w2 := ⟨_, rfl⟩
  have F2 : Four w2 w1.heap.size 0 0 a b := by rw [← h2]; exact Four.new _ _ _ _ _ _
  have B2 : Below V0.heap.size V0 w2 := bt hb1 (by rw [← h2]; exact box1 _ _)
  have C2 := C0.kept B2
  have O2 := O0.kept B2
  have Y2 := boxed_upto Y0 B2 Y0.lt
  have hs1 := hb1.size
  clear hb1 C0 O0 Y0
  obtain ⟨⟨f0, f1, f2, f3⟩, -, -⟩ := id F2
  obtain ⟨⟨t0, t1⟩, -, -⟩ := id C2
  gi_wp2_with fail
  clear h2
  cases hr : has 0 0 a b x y
  · have HI := hide hr
    clear hr
    refine ⟨trivial, ?_⟩
    refine (callsIn_wide.2 (hasc_is w2 HI.out)).mono ?_
    rintro e w3 ⟨rfl, hb3⟩
    have HJ := hide (own_below hJ h0 (bt B0 (bt B2 hb3)))
    clear f0 f1 f2 f3 t0 t1 h0 hY
    gi_wp2_with fail
    exact ⟨.tuple #[], by simp [results, Tryd.f23, go_sem], ⟨_, rfl⟩, .inl ⟨[], by rw [← HL.out, HI.out]; rfl, HJ.out⟩⟩
  · have HI := hide hr
    clear hr
    refine ⟨trivial, ?_⟩
    refine (callsIn_wide.2 (hasc_is w2 HI.out)).mono ?_
    rintro e w3 ⟨rfl, hb3⟩
    clear f0 f1 f2 f3 t0 t1
    have C3 := C2.kept hb3
    have F3 := F2.kept hb3
    have O3 := O2.kept hb3
    have Y3 := boxed_upto Y2 hb3 Y2.lt
    have B3 := bt B2 hb3
    obtain ⟨⟨f0, f1, f2, f3⟩, -, -⟩ := id F3
    obtain ⟨⟨t0, t1⟩, -, -⟩ := id C3
    gi_wp2_with fail
    refine ⟨trivial, ?_⟩
    refine (callsIn_wide.2 (caround_any _ _ _ _ _ _ _)).mono ?_
    rintro e X0 ⟨rfl, hX0⟩
    have C4 : Two X0 w3.heap.size x y := by rw [hX0]; exact (Two.newAt rfl).alloc
    have F4 : Four X0 (w3.heap.size + 1) 0 0 a b := by rw [hX0]; exact Four.newAt _ _ _ _ _ (by simp)
    have B4' : Below w3.heap.size w3 X0 := by rw [hX0]; exact box2 _ _ _
    have z4 : X0.heap.size = w3.heap.size + 2 := by rw [hX0]; simp
    have O4 := O3.kept B4'
    have Y4 := boxed_upto Y3 B4' Y3.lt
    have B4 := bt B3 B4'
    have hs3 := hb3.size
    have hs4 := B4.size
    clear f0 f1 f2 f3 t0 t1 hX0 B4' hb3
    gi_wp2_with fail
    have j1 : J [] X0 := own_below hJ h0 (bt B0 B4)
    have hr0 := O4.1
    have hw2 : w2.heap.size ≤ w3.heap.size := hs3
    have hw1 : V0.heap.size ≤ w2.heap.size := B2.size
    refine wpIn_rangeFunc_ownH rfl hn (gf := 40) (lb := #[ptr w3.heap.size, ptr (w3.heap.size + 1)]) rfl trivial (enters_of Tryd.func40 (by kernel_rfl) rfl)
      (around_stopsK (n - 1) w3.heap.size (w3.heap.size + 1) x y 0 0 a b X0 O4 C4 F4) (fun h k => h.trans k) (kA_b (by omega) (by omega) (by omega)) (Below.refl _ _) (fun _ => rfl)
      (fun pre X => (J (flt pre) X ∧ X0.heap.size ≤ X.heap.size) ∧ Boxed X V.heap.size 61 (.func (.yield l) #[] #[]))
      (fun c pre X => c = .ret ∧ (Jx (flt pre) X ∨ (J (flt pre) X ∧ ∃ p0 t, pre = p0 ++ [t] ∧ ¬ (t : Fin 8).val < 4)))
      (OwnFrom.and (OwnFrom.and (fun s X Y row hs hg hr => own_wide hJ (by omega) (flt s) X Y row hs hg hr) (ownFrom_size _ _)) (Own.from (boxed_own _ _ _) _))
      (fun c s X Y row hs hg hr => ⟨hs.1, hs.2.imp (fun h => own_wide hJx (by omega) (flt s) X Y row h hg hr) (fun h => ⟨own_wide hJ (by omega) (flt s) X Y row h.1 hg hr, h.2⟩)⟩)
      ⟨⟨j1, Nat.le_refl _⟩, Y4⟩
      (fun t a' X => ∃ Bx, X0.heap.size ≤ Bx ∧ Two X Bx (x + dX t.val) (y + dY t.val) ∧ a' = { tmps := #[.func (.yield l) #[] #[], ptr hq, ptr (hq + 1), ptr V.heap.size, ptr w1.heap.size, .int .i64 (t.val : Int), ptr Bx, ptr p, rct 0 0 a b, rct 0 0 a b, cel x y, .bool true, .bool false, cel x y, rct 0 0 a b, .func (.func 40) #[] #[ptr w3.heap.size, ptr (w3.heap.size + 1)], .int .i64 (t.val : Int), cel (x + dX t.val) (y + dY t.val), undef, undef, undef, undef, undef, undef, undef, undef, undef], defers := [] })
      (fun q a' _ X Y row hs hg hr => by obtain ⟨Bx, e1, e2, e3⟩ := hs; exact ⟨Bx, e1, e2.own hg (fun r e => (hr r e).2), e3⟩)
      ?assign ?body ?done ?stop
    case assign =>
      rintro l' pre q X K ⟨⟨hJX, hzX⟩, bY⟩ hK
      gi_wp2
      exact hK _ _ ((KeepsOthers.alloc _ _).from _) (KA.below (box1 _ _) (by omega) (by omega) (by omega)) ⟨⟨own_below hJ hJX (box1 _ _), by simp; omega⟩, bY.alloc _⟩ ⟨X.heap.size, by omega, Two.newAt rfl, rfl⟩
    case body =>
      rintro l' pre q a' X hl' ⟨r, hrr⟩ ⟨⟨hJX, hzX⟩, bY⟩ ⟨Bx, hBx, bX, rfl⟩ hlt
      have cY := bY.cell
      obtain ⟨⟨d0, d1⟩, -, -⟩ := id bX
      by_cases h4 : q.val < 4
      · obtain ⟨fn, tmps, asg, bd, hy, hR⟩ := hY (flt pre) q X hJX (Nat.lt_of_le_of_lt (flt_len pre) hlt)
        have HJ := hide hJX
        clear hJX
        dsimp only [encA] at hy
        have h4i : ¬ (3 : Int) < ((q.val : Nat) : Int) := by omega
        have h4b : decide ((3 : Int) < ((q.val : Nat) : Int)) = false := decide_eq_false h4i
        gi_wp2_with fail
        refine ⟨fun h => (by cases h), ?_⟩
        refine (round_any _ hR).mono ?_
        rintro e Y ⟨hk, (⟨rfl, hJ3, hk3⟩ | ⟨rfl, hJx3⟩)⟩
        · have HJ3 := hide hJ3
          clear hJ3 hR hy
          gi_wp2_with fail
          exact ⟨(hk.mono (by omega)).from, ⟨hk.2 _ (by omega) (by omega), hk.2 _ (by omega) (by omega), hk3⟩, ⟨by rw [flt_lo pre h4]; exact HJ3.out, Nat.le_trans hzX hk.1⟩, hk.at (Nat.le_refl _) bY⟩
        · have HJ3 := hide hJx3
          clear hJx3 hR hy
          gi_wp2_with fail
          exact ⟨(hk.mono (by omega)).from, rfl, .inl (by rw [flt_lo pre h4]; exact HJ3.out)⟩
      · have h4i : (3 : Int) < ((q.val : Nat) : Int) := by omega
        have h4b : decide ((3 : Int) < ((q.val : Nat) : Int)) = true := decide_eq_true h4i
        have HJ := hide hJX
        clear hJX
        gi_wp2_with fail
        refine ⟨fun f hf => (by cases hf), ?_⟩
        gi_wp2_with fail
        exact ⟨KeepsFrom.refl _ _, rfl, .inr ⟨by rw [flt_hi pre h4]; exact HJ.out, pre, q, rfl, h4⟩⟩
    case done =>
      rintro D xs X hD rfl ⟨⟨hJX, hzX⟩, bY⟩ hK
      have HE := hide (hJ _ _ _ (some D) hJX (grownBy_putObj' X D (.deferred none)) (fun r e => by cases e; exact ⟨by omega, _, hK, rfl⟩))
      clear hJX
      gi_wp2_with fail
      refine ⟨by simp, .inl ⟨_, _, rfl, run_takeDeferred hK, ?_⟩⟩
      refine ⟨.tuple #[], by simp [results, Tryd.f23, go_sem], ⟨_, rfl⟩, .inl ⟨flt (roundN x y 0 0 a b 8), by rw [← HL.out, HI.out]; rfl, HE.out⟩⟩
    case stop =>
      rintro D c pre X hD hpre ⟨rfl, hJX⟩ hK
      rcases hJX with hJX | ⟨hJX, p0, t, rfl, ht⟩
      · have HE := hide (hJx _ _ _ (some D) hJX (grownBy_putObj' X D (.deferred none)) (fun r e => by cases e; exact ⟨by omega, _, hK, rfl⟩))
        clear hJX
        gi_wp2
        refine ⟨by simp, .inl ⟨_, _, rfl, run_takeDeferred hK, ?_⟩⟩
        exact ⟨.tuple #[], by simp [results, Tryd.f23, go_sem], ⟨_, rfl⟩, .inr ⟨flt pre, by rw [← HL.out, HI.out]; exact flt_pre hpre, HE.out⟩⟩
      · have HE := hide (hJ _ _ _ (some D) hJX (grownBy_putObj' X D (.deferred none)) (fun r e => by cases e; exact ⟨by omega, _, hK, rfl⟩))
        clear hJX
        gi_wp2
        refine ⟨by simp, .inl ⟨_, _, rfl, run_takeDeferred hK, ?_⟩⟩
        exact ⟨.tuple #[], by simp [results, Tryd.f23, go_sem], ⟨_, rfl⟩, .inl ⟨flt (p0 ++ [t]), by rw [← HL.out, HI.out]; exact flt_end (round_up _ _ _ _ _ _) hpre ht, HE.out⟩⟩
end Go.Proofs.YtpikfplmghofbaaDoor
