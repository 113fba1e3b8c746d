/-
  What cluster.All hands back goes through: all clusters of a World, row by row.
-/
import Derived.Test.YtpikfplmghofbaaDoorClu
set_option linter.unusedSimpArgs false
namespace Go.Proofs.YtpikfplmghofbaaDoor
open Go.RowKit Go.Shelf
set_option linter.unusedVariables false
attribute [local go_sem] Oper.semAt_some
theorem round_any {m m' l : Nat} {f : FuncId} {tmps : Array Value} {assign body : Code} {w : World} {R : Ending → World → Prop} (l' : Nat) (h : RoundIn Fence.wide m Tryd.prog l f tmps assign body w R) :
    RoundIn (Fence.wide.inRound l') m' Tryd.prog l f tmps assign body w R := ⟨h.1, fun c cs _ => h.2 c cs (fun d hd => by cases hd)⟩
theorem own_below {β : Type} {B : Nat} {J : β → World → Prop} (hJ : OwnFrom B J) {s : β} {W W' : World} (hs : J s W) (h : Below W.heap.size W W') : J s W' := hJ s W W' none hs (below_grown h) (fun r e => by cases e)
theorem own_wide {β : Type} {B C : Nat} {J : β → World → Prop} (h : OwnFrom B J) (hB : B ≤ C) : OwnFrom C J := fun s X Y row hs hgr hr => h s X Y row hs hgr (fun r e => ⟨by have := (hr r e).1; omega, (hr r e).2⟩)
theorem ownFrom_size {β : Type} (B N : Nat) : OwnFrom B (fun (_ : β) W => N ≤ W.heap.size) := fun _ _ _ _ hs hg _ => Nat.le_trans hs hg.size
/-- All clusters of a World of so many tiles. -/
abbrev allK (W H : Int) : List Cel := allC 0 0 (clN W) (clN H)
set_option maxRecDepth 100000 in
set_option maxHeartbeats 4000000 in
theorem call_seq (n p h : Nat) (W H : Int) (tl : List Nat) (f : Int → Int → Option Int) (w : World) (hn : 1 ≤ n) (hP : Boxed w h 29 (ptr p)) (hw : Wl w p W H tl f) :
    SeqOwn n 21 #[ptr h] encC (fun _ _ => True) (fun xs => xs = allK W H) (fun pre => pre <+: allK W H) 256 w := fun l J Jx V hV hJ hJx hY h0 => by
  refine callsIn_of_wp_marks Tryd.func21 rfl trivial ?_ rfl
  simp only [Tryd.ntmps21, List.size_toArray, List.length_cons, List.length_nil, Nat.reduceAdd, Nat.reduceSub, Array.replicate_succ, Array.replicate_zero, List.push_toArray, List.append_toArray, List.nil_append, List.cons_append]
  have hs := hw.sides
  have hN : may 0 0 (clN W) (clN H) = true → (clN H).toNat * (clN W).toNat ≤ 256 := fun _ => by
    have := Nat.mul_le_mul (show (clN H).toNat ≤ 16 by unfold clN; omega) (show (clN W).toNat ≤ 16 by unfold clN; omega)
    omega
  unfold allK
  obtain ⟨V0, hV0⟩ : ∃ V0, V.alloc (.cells #[.func (.yield l) #[] #[]] 59) = V0 := ⟨_, rfl⟩
  have B0 : Below V.heap.size V V0 := by rw [← hV0]; exact box1 _ _
  have Y0 : Boxed V0 V.heap.size 59 (.func (.yield l) #[] #[]) := by rw [← hV0]; exact Boxed.new V 59 _
  have z0 : V0.heap.size = V.heap.size + 1 := by rw [← hV0]; simp
  have hW0 : Below w.heap.size w V0 := bt hV B0
  have P0 := boxed_upto hP hW0 hP.lt
  have c0 := P0.cell
  have HC := hide (clus_is (hw.kept hW0))
  generalize clN W = a at HC hN ⊢
  generalize clN H = b at HC hN ⊢
  clear hs hw P0
  gi_wp2_with fail
  refine ⟨trivial, ?_⟩
  refine (callsIn_wide.2 HC.out).mono ?_
  rintro e w1 ⟨rfl, hb1⟩
  clear hV0 HC c0
  gi_wp2_with fail
  refine ⟨trivial, ?_⟩
  refine (callsIn_wide.2 (cells_any _ _ _ _ _)).mono ?_
  rintro e w2 ⟨rfl, rfl⟩
  have F1 : Four (w1.alloc (.cells #[.int .i64 0, .int .i64 0, .int .i64 a, .int .i64 b] 34)) w1.heap.size 0 0 a b := cells4 (Below.refl _ _)
  have B1 := bt hb1 (box1 w1 (.cells #[.int .i64 0, .int .i64 0, .int .i64 a, .int .i64 b] 34))
  have z1 : (w1.alloc (.cells #[.int .i64 0, .int .i64 0, .int .i64 a, .int .i64 b] 34)).heap.size = w1.heap.size + 1 := by simp
  have hs1 := hb1.size
  clear hb1
  gi_wp2_with fail
  obtain ⟨X0, hX0⟩ : ∃ V, w1.alloc (.cells #[.int .i64 0, .int .i64 0, .int .i64 a, .int .i64 b] 34) = V := ⟨_, rfl⟩
  rw [hX0] at F1 B1 z1 ⊢
  clear hX0
  have Y1 : Boxed X0 V.heap.size 59 (.func (.yield l) #[] #[]) := boxed_upto Y0 B1 (by omega)
  have j1 : J [] X0 := own_below hJ h0 (bt B0 B1)
  refine wpIn_rangeFunc_ownH rfl hn (gf := 39) (lb := #[ptr w1.heap.size]) rfl trivial (enters_of Tryd.func39 (by kernel_rfl) rfl)
    (cells_stops (n - 1) w1.heap.size 256 0 0 a b X0 F1 hN) kB_t (kB_b (by omega)) (Below.refl _ _) (fun _ => rfl)
    (fun pre X => (J pre X ∧ X0.heap.size ≤ X.heap.size) ∧ Boxed X V.heap.size 59 (.func (.yield l) #[] #[]))
    (fun c pre X => c = .ret ∧ Jx pre X)
    (OwnFrom.and (OwnFrom.and (own_wide hJ (by omega)) (ownFrom_size _ _)) (Own.from (boxed_own _ _ _) _))
    (fun c => OwnFrom.and (ownFrom_pure _ _) (own_wide hJx (by omega)))
    ⟨⟨j1, Nat.le_refl _⟩, Y1⟩
    (fun q a' X => ∃ Bx, X0.heap.size ≤ Bx ∧ Two X Bx q.1.1 q.1.2 ∧ a' = { tmps := #[.func (.yield l) #[] #[], ptr h, ptr V.heap.size, ptr Bx, ptr p, rct 0 0 a b, .func (.func 39) #[] #[ptr w1.heap.size], cel q.1.1 q.1.2, undef, undef, undef, undef], defers := [] })
    (fun q a' _ X Y row hs hg hr => by obtain ⟨Bx, e1, e2, e3⟩ := hs; exact ⟨Bx, e1, e2.own hg (fun r e => (hr r e).2), e3⟩)
    ?assign ?body ?done ?stop
  case assign =>
    rintro l' pre q X K ⟨⟨hJX, hzX⟩, bY⟩ hK
    gi_wp2
    exact hK _ _ ((KeepsOthers.alloc _ _).from _) (Below.heap_alloc _ _ _ (by omega)) ⟨⟨own_below hJ hJX (box1 _ _), by simp; omega⟩, bY.alloc _⟩ ⟨X.heap.size, by omega, Two.newAt rfl, rfl⟩
  case body =>
    rintro l' pre q a' X hl' ⟨r, hr⟩ ⟨⟨hJX, hzX⟩, bY⟩ ⟨Bx, hBx, bX, rfl⟩ hlt
    have cY := bY.cell
    obtain ⟨⟨d0, d1⟩, -, -⟩ := id bX
    obtain ⟨fn, tmps, asg, bd, hy, hR⟩ := hY pre q X hJX hlt
    have HJ := hide hJX
    clear hJX
    dsimp only [encC] at hy
    gi_wp2_with fail
    refine ⟨fun h => (by cases h), ?_⟩
    refine (round_any _ hR).mono ?_
    rintro e Y ⟨hk, (⟨rfl, hJ3, hk3⟩ | ⟨rfl, hJx3⟩)⟩
    · have HJ3 := hide hJ3
      clear hJ3 hR hy
      gi_wp2_with fail
      exact ⟨(hk.mono (by omega)).from, hk.2 _ (by omega) (by omega), ⟨HJ3.out, Nat.le_trans hzX hk.1⟩, hk.at (Nat.le_refl _) bY⟩
    · have HJ3 := hide hJx3
      clear hJx3 hR hy
      gi_wp2_with fail
      exact ⟨(hk.mono (by omega)).from, rfl, HJ3.out⟩
  case done =>
    rintro D xs X hD rfl ⟨⟨hJX, hzX⟩, bY⟩ hK
    have HE := hide (hJ _ _ _ (some D) hJX (grownBy_putObj' X D (.deferred none)) (fun r e => by cases e; exact ⟨by omega, _, hK, rfl⟩))
    clear hJX
    gi_wp2_with fail
    refine ⟨by simp, .inl ⟨_, _, rfl, run_takeDeferred hK, ?_⟩⟩
    exact ⟨.tuple #[], by simp [results, Tryd.f21, go_sem], ⟨_, rfl⟩, .inl ⟨_, rfl, HE.out⟩⟩
  case stop =>
    rintro D c pre X hD hpre ⟨rfl, hJX⟩ hK
    have HE := hide (hJx _ _ _ (some D) hJX (grownBy_putObj' X D (.deferred none)) (fun r e => by cases e; exact ⟨by omega, _, hK, rfl⟩))
    clear hJX
    gi_wp2
    refine ⟨by simp, .inl ⟨_, _, rfl, run_takeDeferred hK, ?_⟩⟩
    exact ⟨.tuple #[], by simp [results, Tryd.f21, go_sem], ⟨_, rfl⟩, .inr ⟨_, hpre, HE.out⟩⟩
end Go.Proofs.YtpikfplmghofbaaDoor
