/-
  Numbers: what cmp.Compare and cmp.Or tell; rows of numbers and of truth values.
-/
import Derived.Test.YtmkoleioipklpaaSml
import Derived.Shelf.SlGeneric
import Derived.Shelf.GgSortFunc.InsertionK
namespace Go.Proofs.Ytmkoleioipklpaa
open Go.RowKit Go.Shelf Go.Sort Go.Lib
set_option linter.unusedVariables false
set_option linter.unusedSimpArgs false
def cmpI (x y : Int) : Int := if x < y then -1 else if y < x then 1 else 0
theorem nan_any (x : Int) (w : World) : Calls Try.prog 50 #[.int .i64 x] w fun e w' => e = .returned (.bool false) ∧ w' = w := by
  go_enter Try.func50, Try.ntmps50
  go_wp2
  go_ret
  exact ⟨rfl, rfl⟩
set_option maxHeartbeats 400000 in
theorem cmp_any (x y : Int) (w : World) : Calls Try.prog 32 #[.int .i64 x, .int .i64 y] w fun e w' => e = .returned (.int .i64 (cmpI x y)) ∧ w' = w := by
  by_cases h1 : x < y
  · rw [show cmpI x y = -1 by simp [cmpI, h1]]
    go_enter Try.func32, Try.ntmps32
    go_wp2_with (go_at_call 50; refine (nan_any _ _).mono ?_; rintro e w' ⟨rfl, rfl⟩)
    go_ret
    exact ⟨rfl, rfl⟩
  · by_cases h2 : y < x
    · rw [show cmpI x y = 1 by simp [cmpI, h1, h2]]
      go_enter Try.func32, Try.ntmps32
      go_wp2_with (go_at_call 50; refine (nan_any _ _).mono ?_; rintro e w' ⟨rfl, rfl⟩)
      go_ret
      exact ⟨rfl, rfl⟩
    · rw [show cmpI x y = 0 by simp [cmpI, h1, h2]]
      go_enter Try.func32, Try.ntmps32
      go_wp2_with (go_at_call 50; refine (nan_any _ _).mono ?_; rintro e w' ⟨rfl, rfl⟩)
      go_ret
      exact ⟨rfl, rfl⟩
set_option linter.unusedVariables false
theorem run_cmp {ev : Operand → Value} {o : Oper} {w : World} {ar : Array Operand} {ts : Array TypeId} {vs : Array Value} (hop : o.op = .call { callee := .value (.func 32), args := ar, argTypes := ts }) (hf : ev (.func 32) = .func (.func 32) #[] #[]) (hvs : ar.map ev = vs) : (execOp ev o).run Try.prog w = .ok (.enter 32 vs) w := by
  unfold execOp
  simp only [hop, resolve, hf, hvs]
  go_simp
theorem run_or {ev : Operand → Value} {o : Oper} {w : World} {ar : Array Operand} {ts : Array TypeId} {vs : Array Value} (hop : o.op = .call { callee := .value (.func 33), args := ar, argTypes := ts }) (hf : ev (.func 33) = .func (.func 33) #[] #[]) (hvs : ar.map ev = vs) : (execOp ev o).run Try.prog w = .ok (.enter 33 vs) w := by
  unfold execOp
  simp only [hop, resolve, hf, hvs]
  go_simp
theorem run_assign {P : Program} {ev : Operand → Value} {o : Oper} {w : World} {x : Operand} {v : Value} (ho : o.op = .assign x) (hx : ev x = v) : (execOp ev o).run P w = .ok (.value v) w := by
  unfold execOp; rw [ho, ← hx]; rfl
/-- A call that makes memory alone, and may draw. -/
def GrD (w w' : World) : Prop := ∃ n os, w' = grow (Sort.ahead w n) os
theorem GrD.refl (w : World) : GrD w w := ⟨0, #[], by simp [grow]⟩
theorem GrD.box (w : World) (o : Obj) : GrD w (w.alloc o) := ⟨0, #[o], by rw [Sort.ahead_zero]; exact alloc_eq_grow w o⟩
theorem GrD.draw (w : World) : GrD w w.drew := ⟨1, #[], by simp [grow]; rfl⟩
theorem GrD.trans {a b c : World} (h : GrD a b) (k : GrD b c) : GrD a c := by
  obtain ⟨n1, o1, rfl⟩ := h
  obtain ⟨n2, o2, rfl⟩ := k
  exact ⟨n1 + n2, o1 ++ o2, by rw [ahead_grow, Sort.ahead_ahead, grow_grow]⟩
theorem GrD.below {a b : World} (h : GrD a b) : Below a.heap.size a b := by
  obtain ⟨n, os, rfl⟩ := h
  refine ⟨rfl, rfl, rfl, by simp [grow, Sort.ahead], fun k hk => ?_⟩
  unfold grow Sort.ahead
  exact Array.getElem?_append_left hk
def orI (u v : Int) : Int := if u = 0 then v else u
set_option maxHeartbeats 1000000 in
theorem or_two (g : Nat) (u v : Int) (w : World) (h : w.heap[g]? = some (.cells #[.int .i64 u, .int .i64 v] 3)) : Calls Try.prog 33 #[.slice (some ⟨g, 0, none⟩) 2 2] w fun e w' => e = .returned (.int .i64 (orI u v)) ∧ w' = w := by
  have c0 : w.cell? ⟨g, 0, none⟩ = some (.int .i64 u) := by rw [cell_of_row w g 0 _ _ _ h]; rfl
  have c1 : w.cell? ⟨g, 1, none⟩ = some (.int .i64 v) := by rw [cell_of_row w g 1 _ _ _ h]; rfl
  obtain ⟨z, hz⟩ : ∃ z, orI u v = z := ⟨_, rfl⟩
  rw [hz]
  have HZ := hide hz
  clear h hz
  go_enter Try.func33, Try.ntmps33
  go_wp2_with fail
  go_loopw [8] (fun i wr => ∃ k : Nat, k ≤ 2 ∧ i = .int .i64 (k : Nat) ∧ wr = w ∧ (0 < k → u = 0) ∧ (1 < k → v = 0)) (fun i _ => 2 - (intOf i).toNat)
  case atStart => exact ⟨0, by omega, rfl, rfl, fun h => by omega, fun h => by omega⟩
  case round =>
    obtain ⟨k, hk, rfl, rfl, h1, h2⟩ := hrel
    have HH := hide (And.intro h1 h2)
    clear h1 h2
    match k, hk with
    | 0, _ =>
      by_cases hu : u = 0
      · have HU := hide hu
        go_wp2_with fail
        go_roundw
        case rel => exact ⟨1, by omega, by go_num, by first | rfl | trivial, fun _ => HU.out, fun h => by omega⟩
        case measure => simp [intOf]
      · have hz : u = z := by rw [← HZ.out]; simp [orI, hu]
        clear HZ
        subst hz
        go_wp2_with fail
        go_ret
        exact ⟨rfl, rfl⟩
    | 1, _ =>
      have hu := HH.out.1 (by omega)
      by_cases hv : v = 0
      · have HU := hide (And.intro hu hv)
        clear hu
        go_wp2_with fail
        go_roundw
        case rel => exact ⟨2, by omega, by go_num, by first | rfl | trivial, fun _ => HU.out.1, fun _ => HU.out.2⟩
        case measure => simp [intOf]
      · have hz : v = z := by rw [← HZ.out]; simp [orI, hu]
        clear HZ hu
        subst hz
        go_wp2_with fail
        go_ret
        exact ⟨rfl, rfl⟩
    | 2, _ =>
      have hu := HH.out.1 (by omega)
      have hv := HH.out.2 (by omega)
      have hz : 0 = z := by rw [← HZ.out]; simp [orI, hu, hv]
      clear HZ hu hv
      subst hz
      go_wp2_with fail
      go_ret
      exact ⟨rfl, rfl⟩
theorem run_ints2 {ev : Operand → Value} {o : Oper} {w : World} {x y : Operand} {a b : Int} (ho : o.op = .buildSlice 24 2 #[(0, x), (1, y)]) (hx : ev x = .int .i64 a) (hy : ev y = .int .i64 b) : (execOp ev o).run Try.prog w = .ok (.value (.slice (some ⟨w.heap.size, 0, none⟩) 2 2)) (w.alloc (.cells #[.int .i64 a, .int .i64 b] 3)) := by
  unfold execOp
  simp only [ho, hx, hy]
  go_simp
theorem cmpI_neg (a b : Int) : (cmpI a b < 0 ↔ a < b) ∧ (cmpI a b = 0 ↔ a = b) := by
  unfold cmpI
  split
  · omega
  · split <;> omega
def iCs (x : Int) : List Value := [.int .i64 x]
theorem iCs_len (x : Int) : (iCs x).length = 1 := rfl
theorem iCs_one (x : Int) : ∀ u ∈ iCs x, u.oneCell' = true := by intro u h; simp [iCs] at h; subst h; rfl
theorem iCs_ones (L : List Int) : ∀ u ∈ L.flatMap iCs, u.oneCell' = true := by
  intro u hu
  obtain ⟨t, -, h⟩ := List.mem_flatMap.1 hu
  exact iCs_one t u h
theorem info3n : (Try.prog.info? 3).map (fun i => (i.zero, i.size, i.bytes)) = some (some (.int .i64 0), 1, 8) := by kernel_rfl
/-- A row of numbers of the call's own. -/
abbrev In (w : World) (v : Value) (L : List Int) : Prop := Rw 3 1 iCs w v L
/-- A row of numbers, wherever it begins. -/
abbrev Ir (w : World) (v : Value) (L : List Int) : Prop := Rd 1 iCs w v L
def iv (L : List Int) : List Value := L.map (Value.int .i64)
theorem iv_flat (L : List Int) : L.flatMap iCs = iv L := by
  induction L with
  | nil => rfl
  | cons a l ih => rw [List.flatMap_cons, ih]; rfl
theorem iv_at {L : List Int} {i : Nat} {x : Int} (h : L[i]? = some x) : (iv L)[i]? = some (.int .i64 x) := by simp [iv, h]
theorem iv_set (L : List Int) (i : Nat) (x : Int) : (iv L).set i (.int .i64 x) = iv (L.set i x) := by simp [iv, List.map_set]
theorem iv_len (L : List Int) : (iv L).length = L.length := by simp [iv]
def bv (L : List Bool) : List Value := L.map Value.bool
theorem bv_at {L : List Bool} {i : Nat} {x : Bool} (h : L[i]? = some x) : (bv L)[i]? = some (.bool x) := by simp [bv, h]
theorem bv_set (L : List Bool) (i : Nat) (x : Bool) : (bv L).set i (.bool x) = bv (L.set i x) := by simp [bv, List.map_set]
theorem Ir.at {w : World} {v : Value} {P : List Int} {a : Option Addr} {n cap : Nat} (h : Ir w v P) (hv : v = .slice a n cap) {i : Nat} {q : Int} (hi : P[i]? = some q) :
    ∃ g o, a = some ⟨g, o, none⟩ ∧ g < w.heap.size ∧ w.cell? ⟨g, o + i, none⟩ = some (.int .i64 q) := by
  obtain ⟨a', cap', e, -, -, -, hat⟩ := h
  rw [hv] at e
  injection e with e1
  subst e1
  obtain ⟨g, o, e1, e2, e3⟩ := hat i q hi
  have := e3 0 _ rfl
  rw [Nat.mul_one, Nat.add_zero] at this
  exact ⟨g, o, e1, e2, this⟩
theorem Bk.ir {w : World} {g : Nat} {L : List Int} (h : Bk w g 3 (iv L)) (hm : L.length ≤ maxLen) : Ir w (.slice (some ⟨g, 0, none⟩) L.length L.length) L :=
  ⟨some ⟨g, 0, none⟩, L.length, rfl, Nat.le_refl _, hm, (fun e => by cases e), fun i q hi => ⟨g, 0, rfl, h.lt, fun j u hu => by
    have hj : j < 1 := (List.getElem?_eq_some_iff.1 hu).1
    obtain rfl : j = 0 := by omega
    rw [Nat.zero_add, Nat.mul_one, Nat.add_zero]
    cases hu
    exact h.cell i _ (iv_at hi)⟩⟩
end Go.Proofs.Ytmkoleioipklpaa
