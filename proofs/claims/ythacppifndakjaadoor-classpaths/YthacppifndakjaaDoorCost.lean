/-
  What a path costs: of the package and of the reference.
-/
import Derived.Test.YthacppifndakjaaDoorDir
import Derived.Test.YthacppifndakjaaDoorAtW
namespace Go.Proofs.YthacppifndakjaaDoor
open Go.RowKit
set_option linter.unusedVariables false
/-- The slice v, wherever it begins, reads as the cells P. -/
def CeR (w : World) (v : Value) (P : List (Int × Int)) : Prop :=
  ∃ a cap, v = .slice a P.length cap ∧ P.length ≤ cap ∧ P.length ≤ maxLen ∧ (a = none → P.length = 0 ∧ cap = 0) ∧ ∀ (i : Nat) q, P[i]? = some q → ∃ g o, a = some ⟨g, o, none⟩ ∧ g < w.heap.size ∧ w.cell? ⟨g, o + i * 2, none⟩ = some (.int .i64 q.1) ∧ w.cell? ⟨g, o + i * 2 + 1, none⟩ = some (.int .i64 q.2)
theorem CeR.kept {w w' : World} {v : Value} {P : List (Int × Int)} (h : CeR w v P) (hb : Below w.heap.size w w') : CeR w' v P := by
  obtain ⟨a, cap, e, h1, h2, h3, h4⟩ := h
  refine ⟨a, cap, e, h1, h2, h3, fun i x hx => ?_⟩
  obtain ⟨g, o, e1, e2, e3, e4⟩ := h4 i x hx
  exact ⟨g, o, e1, Nat.lt_of_lt_of_le e2 hb.size, (hb.cell (p := ⟨g, _, none⟩) e2).trans e3, (hb.cell (p := ⟨g, _, none⟩) e2).trans e4⟩
def costF : Int → Int → List (Int × Int) → Int → Int
  | _, _, [], n => n
  | x, y, q :: r, n => if dirN x y q.1 q.2 < 0 then -1 else costF q.1 q.2 r (n + co (dirN x y q.1 q.2))
def costV (x y : Int) (P : List (Int × Int)) : Int := if 16384 < P.length then -1 else costF x y P 0
theorem co_range (d : Int) : 0 ≤ co d ∧ co d ≤ 14 := by
  unfold co
  split
  · split <;> omega
  · omega
theorem drop_cons' {P : List (Int × Int)} {k : Nat} {q : Int × Int} (h : P[k]? = some q) : P.drop k = q :: P.drop (k + 1) := by
  obtain ⟨hl, hq⟩ := List.getElem?_eq_some_iff.1 h
  rw [List.drop_eq_getElem_cons hl, hq]
set_option maxRecDepth 100000 in
set_option maxHeartbeats 4000000 in
theorem pcost_any (x y : Int) (v : Value) (P : List (Int × Int)) (w : World) (hv : CeR w v P) (ho : Offs w) :
    Calls Tryd.prog 22 #[cel x y, v] w fun e w' => e = .returned (.int .i64 (costV x y P)) ∧ Below w.heap.size w w' := by
  have hv' := hv
  obtain ⟨a, cap, rfl, hcap, hmax, -, -⟩ := hv'
  have hl63 : (0 : Int) ≤ (P.length : Nat) ∧ ((P.length : Nat) : Int) ≤ 9223372036854775807 := by
    have : P.length ≤ 9223372036854775807 := hmax
    omega
  have B0 : Below w.heap.size w (w.alloc (.cells #[.int .i64 x, .int .i64 y] 25)) := box1 _ _
  have T0 : Two (w.alloc (.cells #[.int .i64 x, .int .i64 y] 25)) w.heap.size x y := Two.newAt rfl
  obtain ⟨X, hX⟩ : ∃ X, w.alloc (.cells #[.int .i64 x, .int .i64 y] 25) = X := ⟨_, rfl⟩
  rw [hX] at B0 T0
  by_cases hlong : (16384 : Int) < (P.length : Nat)
  · rw [show costV x y P = -1 by rw [costV, if_pos (by omega)]]
    go_enter Tryd.func22, Tryd.ntmps22
    go_wp2_with fail
    go_ret
    exact ⟨rfl, B0⟩
  obtain ⟨c, hc⟩ : ∃ c, costV x y P = c := ⟨_, rfl⟩
  have hc0 : costF x y P 0 = c := by rw [← hc, costV, if_neg (by omega)]
  rw [hc]
  clear hc
  go_enter Tryd.func22, Tryd.ntmps22
  go_wp2_with fail
  clear hX
  go_loopw [5, 14] (fun s5 s14 wr => ∃ (k : Nat) (fx fy n : Int), k ≤ P.length ∧ s14 = .int .i64 k ∧ s5 = .int .i64 n ∧ (0 ≤ n ∧ n ≤ 14 * k) ∧ costF fx fy (P.drop k) n = c ∧ Two wr w.heap.size fx fy ∧ Below w.heap.size w wr) (fun s5 s14 _ => P.length - (intOf s14).toNat)
  case atStart => exact ⟨0, x, y, 0, Nat.zero_le _, rfl, rfl, by omega, by simpa using hc0, T0, B0⟩
  case round =>
    obtain ⟨k, fx, fy, n, hk, rfl, rfl, hn, hco, hT, hB⟩ := hrel
    by_cases hlt : k < P.length
    · obtain ⟨q, hq⟩ : ∃ q, P[k]? = some q := ⟨_, List.getElem?_eq_getElem hlt⟩
      obtain ⟨g, o, hga, c0, c1⟩ : ∃ g o, a = some ⟨g, o, none⟩ ∧ wr.cell? ⟨g, o + k * 2, none⟩ = some (.int .i64 q.1) ∧ wr.cell? ⟨g, o + k * 2 + 1, none⟩ = some (.int .i64 q.2) := by
        obtain ⟨a', cap', he', _, _, _, hform⟩ := hv.kept hB
        obtain ⟨g', o', hgg, _, e1, e2⟩ := hform k q hq
        injection he' with h1 h2 h3
        exact ⟨g', o', h1.trans hgg, e1, e2⟩
      subst hga
      rw [drop_cons' hq, costF] at hco
      have hki : (k : Int) < (P.length : Nat) := by omega
      have T2 : Two (wr.alloc (.cells #[.int .i64 q.1, .int .i64 q.2] 25)) wr.heap.size q.1 q.2 := Two.newAt rfl
      have B2 : Below wr.heap.size wr (wr.alloc (.cells #[.int .i64 q.1, .int .i64 q.2] 25)) := box1 _ _
      have TF := hT.kept B2
      obtain ⟨wa, hwa⟩ : ∃ wa, wr.alloc (.cells #[.int .i64 q.1, .int .i64 q.2] 25) = wa := ⟨_, rfl⟩
      rw [hwa] at T2 B2 TF
      obtain ⟨⟨f0, f1⟩, -, -⟩ := id TF
      obtain ⟨⟨t0, t1⟩, -, -⟩ := id T2
      obtain ⟨d, hd⟩ : ∃ d, dirN fx fy q.1 q.2 = d := ⟨_, rfl⟩
      have HD := hide (dir_any fx fy q.1 q.2 wa (ho.kept (bt hB B2)))
      rw [hd] at HD hco
      have hrg := co_range d
      clear hd
      go_wp2_with fail
      refine HD.out.mono ?_
      rintro e w2 ⟨rfl, hb2⟩
      have TF2 := TF.kept hb2
      have T22 := T2.kept hb2
      have HB2 := hide (bt hB (bt B2 hb2))
      clear HD c0 c1 f0 f1 t0 t1 hwa TF T2 B2 hb2 hT hB
      by_cases hneg : d < 0
      · rw [if_pos hneg] at hco
        go_wp2_with fail
        go_ret
        exact ⟨ret_int hco, HB2.out⟩
      · rw [if_neg hneg] at hco
        obtain ⟨⟨f0, f1⟩, ⟨f2, f3⟩, fz⟩ := id TF2
        obtain ⟨⟨t0, t1⟩, -, -⟩ := id T22
        have hw : IntKind.i64.wrap (n + co d) = n + co d := by rw [IntKind.wrap_i64]; omega
        go_wp2_with (go_at_call 48; refine (cost_any _ _).mono ?_; rintro e w' ⟨rfl, rfl⟩)
        go_roundw
        case rel =>
          refine ⟨k + 1, q.1, q.2, n + co d, by omega, by go_num, rfl, by omega, hco, ?_, ?_⟩
          · exact Two.set TF2
          · exact (HB2.out.setCell (p := ⟨w.heap.size, 0, none⟩) (by simp) _).setCell (p := ⟨w.heap.size, 1, none⟩) (by simp) _
        case measure => simp [intOf]; omega
    · obtain rfl : k = P.length := by omega
      rw [List.drop_length, costF] at hco
      have hki : ¬ ((P.length : Nat) : Int) < (P.length : Nat) := by omega
      go_wp2_with fail
      go_ret
      exact ⟨rfl, hB⟩
theorem refdir_is {x y tx ty d : Int} (w : World) (h : dirN x y tx ty = d) : Calls Tryd.prog 19 #[.agg #[.int .i64 x, .int .i64 y], .agg #[.int .i64 tx, .int .i64 ty]] w fun e w' => e = .returned (.int .i64 d) ∧ Below w.heap.size w w' := by subst h; exact refdir_any x y tx ty w
theorem dir_is {x y tx ty d : Int} (w : World) (ho : Offs w) (h : dirN x y tx ty = d) : Calls Tryd.prog 47 #[.agg #[.int .i64 x, .int .i64 y], .agg #[.int .i64 tx, .int .i64 ty]] w fun e w' => e = .returned (.int .i64 d) ∧ Below w.heap.size w w' := by subst h; exact dir_any x y tx ty w ho
set_option maxRecDepth 100000 in
set_option maxHeartbeats 4000000 in
theorem refpcost_any (x y : Int) (v : Value) (P : List (Int × Int)) (w : World) (hv : CeR w v P) :
    Calls Tryd.prog 23 #[cel x y, v] w fun e w' => e = .returned (.int .i64 (costV x y P)) ∧ Below w.heap.size w w' := by
  have hv' := hv
  obtain ⟨a, cap, rfl, hcap, hmax, -, -⟩ := hv'
  have hl63 : (0 : Int) ≤ (P.length : Nat) ∧ ((P.length : Nat) : Int) ≤ 9223372036854775807 := by
    have : P.length ≤ 9223372036854775807 := hmax
    omega
  have B0 : Below w.heap.size w (w.alloc (.cells #[.int .i64 x, .int .i64 y] 25)) := box1 _ _
  have T0 : Two (w.alloc (.cells #[.int .i64 x, .int .i64 y] 25)) w.heap.size x y := Two.newAt rfl
  obtain ⟨X, hX⟩ : ∃ X, w.alloc (.cells #[.int .i64 x, .int .i64 y] 25) = X := ⟨_, rfl⟩
  rw [hX] at B0 T0
  by_cases hlong : (16384 : Int) < (P.length : Nat)
  · rw [show costV x y P = -1 by rw [costV, if_pos (by omega)]]
    go_enter Tryd.func23, Tryd.ntmps23
    go_wp2_with fail
    go_ret
    exact ⟨rfl, B0⟩
  obtain ⟨c, hc⟩ : ∃ c, costV x y P = c := ⟨_, rfl⟩
  have hc0 : costF x y P 0 = c := by rw [← hc, costV, if_neg (by omega)]
  rw [hc]
  clear hc
  go_enter Tryd.func23, Tryd.ntmps23
  go_wp2_with fail
  clear hX
  go_loopw [5, 6] (fun s5 s6 wr => ∃ (k : Nat) (fx fy n : Int), k ≤ P.length ∧ s6 = .int .i64 k ∧ s5 = .int .i64 n ∧ (0 ≤ n ∧ n ≤ 14 * k) ∧ costF fx fy (P.drop k) n = c ∧ Two wr w.heap.size fx fy ∧ Below w.heap.size w wr) (fun s5 s6 _ => P.length - (intOf s6).toNat)
  case atStart => exact ⟨0, x, y, 0, Nat.zero_le _, rfl, rfl, by omega, by simpa using hc0, T0, B0⟩
  case round =>
    obtain ⟨k, fx, fy, n, hk, rfl, rfl, hn, hco, hT, hB⟩ := hrel
    by_cases hlt : k < P.length
    · obtain ⟨q, hq⟩ : ∃ q, P[k]? = some q := ⟨_, List.getElem?_eq_getElem hlt⟩
      obtain ⟨g, o, hga, hgl, c0, c1⟩ : ∃ g o, a = some ⟨g, o, none⟩ ∧ g < wr.heap.size ∧ wr.cell? ⟨g, o + k * 2, none⟩ = some (.int .i64 q.1) ∧ wr.cell? ⟨g, o + k * 2 + 1, none⟩ = some (.int .i64 q.2) := by
        obtain ⟨a', cap', he', _, _, _, hform⟩ := hv.kept hB
        obtain ⟨g', o', hgg, h0, e1, e2⟩ := hform k q hq
        injection he' with h1 h2 h3
        exact ⟨g', o', h1.trans hgg, h0, e1, e2⟩
      subst hga
      rw [drop_cons' hq, costF] at hco
      have hki : (k : Int) < (P.length : Nat) := by omega
      have l0 : ∀ n : Lat wr, n.w.cell? ⟨g, o + k * 2, none⟩ = some (.int .i64 q.1) := fun n => (n.h.cell (p := ⟨g, _, none⟩) hgl).trans c0
      have l1 : ∀ n : Lat wr, n.w.cell? ⟨g, o + k * 2 + 1, none⟩ = some (.int .i64 q.2) := fun n => (n.h.cell (p := ⟨g, _, none⟩) hgl).trans c1
      obtain ⟨f0, f1⟩ := hT.lat
      have hne := lat_some wr
      obtain ⟨d, hd⟩ : ∃ d, dirN fx fy q.1 q.2 = d := ⟨_, rfl⟩
      have HD := hide hd
      rw [hd] at hco
      have hrg := co_range d
      clear hd c0 c1
      go_wp2_with fail
      refine wp_region_lat (by kernel_rfl) (by kernel_rfl) ?_
      repeat (go_big_quiet_step (first | (go_at_call 19; exact calls_lat (refdir_is _ HD.out))))
      refine wpQuiet_nil ?_
      rintro _ ⟨m, rfl⟩
      have TF2 := hT.kept m.h
      have HB2 := hide (bt hB m.h)
      have t0 := l0 m
      have t1 := l1 m
      clear HD l0 l1 f0 f1 hT hB
      by_cases hneg : d < 0
      · rw [if_pos hneg] at hco
        go_wp2_with fail
        go_ret
        exact ⟨ret_int hco, HB2.out⟩
      · rw [if_neg hneg] at hco
        obtain ⟨⟨f0, f1⟩, ⟨f2, f3⟩, fz⟩ := id TF2
        have hw : IntKind.i64.wrap (n + co d) = n + co d := by rw [IntKind.wrap_i64]; omega
        go_wp2_with (go_at_call 49; refine (refcost_any _ _).mono ?_; rintro e w' ⟨rfl, rfl⟩)
        go_roundw
        case rel =>
          refine ⟨k + 1, q.1, q.2, n + co d, by omega, by go_num, rfl, by omega, hco, ?_, ?_⟩
          · exact Two.set TF2
          · exact (HB2.out.setCell (p := ⟨w.heap.size, 0, none⟩) (by simp) _).setCell (p := ⟨w.heap.size, 1, none⟩) (by simp) _
        case measure => simp [intOf]; omega
    · obtain rfl : k = P.length := by omega
      rw [List.drop_length, costF] at hco
      have hki : ¬ ((P.length : Nat) : Int) < (P.length : Nat) := by omega
      go_wp2_with fail
      go_ret
      exact ⟨rfl, hB⟩
end Go.Proofs.YthacppifndakjaaDoor
