/-
  The order of pairs, as the program's closures tell it.
-/
import Derived.Test.YtmkoleioipklpaaPrw
import Derived.Test.YtmkoleioipklpaaRoc
namespace Go.Proofs.Ytmkoleioipklpaa
open Go.RowKit Go.Shelf Go.Sort Go.Lib
set_option linter.unusedVariables false
set_option linter.unusedSimpArgs false
attribute [local go_sem] Oper.semAt_some
/-- How far unit u stands from place p. -/
def dst (U P : List (Int × Int)) (u p : Nat) : Int := ocN (U.getD u (0, 0)).1 (U.getD u (0, 0)).2 (P.getD p (0, 0)).1 (P.getD p (0, 0)).2
theorem ocN_in (a b c d : Int) : 0 ≤ ocN a b c d ∧ ocN a b c d ≤ 29360128 := by
  cases h : nrC a b
  · rw [ocN_no1 h]; omega
  · cases h2 : nrC c d
    · rw [ocN_no2 h2]; omega
    · rw [ocN_yes h h2]; exact oct_nearR h h2
theorem dst_in (U P : List (Int × Int)) (u p : Nat) : 0 ≤ dst U P u p ∧ dst U P u p ≤ 29360128 := ocN_in _ _ _ _
/-- What the closures keep: the distances, and the places. -/
structure Env (w : World) (D A B : Nat) (va vp : Value) (n : Nat) (d : Nat → Nat → Int) : Prop where
  small : n ≤ 64
  kD : Bk w D 55 [.func (.func 30) #[] #[ptr A, ptr B]]
  kA : Bk w A 24 [va]
  kB : Bk w B 22 [vp]
  pl : ∃ a c, vp = .slice a n c
  ds : ∃ T : List Int, Ir w va T ∧ ∀ u p, u < n → p < n → T[u * n + p]? = some (d u p)
theorem Env.kept {w w' : World} {D A B : Nat} {va vp : Value} {n : Nat} {d : Nat → Nat → Int} {S : Nat → Prop} (h : Env w D A B va vp n d) (ht : Turns S w w') (hD : ¬ S D) (hA : ¬ S A) (hB : ¬ S B) (hv : ∀ g, va.ownBlock = some g → ¬ S g) : Env w' D A B va vp n d :=
  ⟨h.small, h.kD.kept ht hD, h.kA.kept ht hA, h.kB.kept ht hB, h.pl, by
    obtain ⟨T, h1, h2⟩ := h.ds
    exact ⟨T, h1.turned ht hv, h2⟩⟩
theorem Env.upto {w w' : World} {D A B : Nat} {va vp : Value} {n : Nat} {d : Nat → Nat → Int} (h : Env w D A B va vp n d) (hb : Below w.heap.size w w') : Env w' D A B va vp n d :=
  h.kept (Turns.of_below (S := NoB) hb) (fun s => s) (fun s => s) (fun s => s) (fun _ _ s => s)
theorem idx_lt {n u p : Nat} (hu : u < n) (hp : p < n) : u * n + p < n * n := by
  have : (u + 1) * n ≤ n * n := Nat.mul_le_mul_right n hu
  rw [Nat.succ_mul] at this
  omega
set_option maxRecDepth 100000 in
set_option maxHeartbeats 4000000 in
theorem distance_is {w : World} {D A B : Nat} {va vp : Value} {n : Nat} {d : Nat → Nat → Int} (h : Env w D A B va vp n d) {u p : Nat} (hu : u < n) (hp : p < n) :
    Calls Try.prog 30 #[prV (u, p), ptr A, ptr B] w fun e w' => e = .returned (.int .i64 (d u p)) ∧ GrD w w' := by
  obtain ⟨hs, -, kA, kB, ⟨a, c, rfl⟩, T, hT, hat⟩ := h
  obtain ⟨ta, tc, rfl, -, hmx⟩ := hT.slice
  obtain ⟨X, hX⟩ : ∃ X, w.alloc (.cells #[.int .i64 (u : Nat), .int .i64 (p : Nat)] 40) = X := ⟨_, rfl⟩
  have BX : Below w.heap.size w X := by rw [← hX]; exact box1 _ _
  have GX : GrD w X := hX ▸ GrD.box w _
  have KX : Bk X w.heap.size 40 [.int .i64 (u : Nat), .int .i64 (p : Nat)] := by rw [← hX]; exact Bk.new _ _ _
  have x0 := KX.cell 0 _ rfl
  have x1 := KX.cell 1 _ rfl
  have a0 := (kA.upto BX).cell 0 _ rfl
  have b0 := (kB.upto BX).cell 0 _ rfl
  have hi := hat u p hu hp
  have hil := idx_lt hu hp
  have hn2 : n * n ≤ 4096 := Nat.mul_le_mul hs hs
  have hil2 : u * n + p < T.length := (List.getElem?_eq_some_iff.1 hi).1
  obtain ⟨g, o, hga, -, c0⟩ := Ir.at (hT.kept BX) rfl hi
  subst hga
  have hm1 : u * n ≤ 4096 := by omega
  have hw1 : IntKind.i64.wrap ((u : Int) * (n : Int)) = ((u * n : Nat) : Int) := by
    rw [Int.natCast_mul]; rw [← Int.natCast_mul]; exact IntWalk.i64_in _ (by omega)
  obtain ⟨m, hm⟩ : ∃ m, u * n = m := ⟨_, rfl⟩
  rw [hm] at hw1 hil hil2 hi c0 hm1
  have hw2 : IntKind.i64.wrap ((m : Int) + (p : Int)) = ((m + p : Nat) : Int) := by
    rw [show (m : Int) + (p : Int) = ((m + p : Nat) : Int) by omega]; exact IntWalk.i64_in _ (by omega)
  obtain ⟨i, hii⟩ : ∃ i, m + p = i := ⟨_, rfl⟩
  have c1 : X.cell? ⟨g, o + i, none⟩ = some (.int .i64 (d u p)) := by rw [← hii]; exact c0
  rw [hii] at hw2 hil2 hil
  have hlt : ((i : Nat) : Int) < (T.length : Nat) := by omega
  have HX := hide hX
  have HG := hide GX
  clear hX BX GX KX kA kB hat hT hi c0 hm hii hil hm1 hn2
  go_enter Try.func30, Try.ntmps30
  go_wp2_with (first | rw [HX.out] | rw [hw1] | rw [hw2])
  go_ret
  exact ⟨rfl, HG.out⟩
end Go.Proofs.Ytmkoleioipklpaa
