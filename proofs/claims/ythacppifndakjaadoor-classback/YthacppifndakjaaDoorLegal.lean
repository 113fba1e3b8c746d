/-
  What a path costs: of the package and of the reference. Which paths are legal: of the package and of the reference.
-/
import Derived.Test.YthacppifndakjaaDoorDir
import Derived.Test.YthacppifndakjaaDoorAtW
import Derived.Test.YthacppifndakjaaDoorSteps
namespace Go.Proofs.YthacppifndakjaaDoor
open Go.RowKit
set_option linter.unusedVariables false
/-- The slice v, wherever it begins, reads as the cells P. -/
def CeR (w : World) (v : Value) (P : List (Int × Int)) : Prop :=
  ∃ a cap, v = .slice a P.length cap ∧ P.length ≤ cap ∧ P.length ≤ maxLen ∧ (a = none → P.length = 0 ∧ cap = 0) ∧ ∀ (i : Nat) q, P[i]? = some q → ∃ g o, a = some ⟨g, o, none⟩ ∧ g < w.heap.size ∧ w.cell? ⟨g, o + i * 2, none⟩ = some (.int .i64 q.1) ∧ w.cell? ⟨g, o + i * 2 + 1, none⟩ = some (.int .i64 q.2)
theorem CeR.kept {w w' : World} {v : Value} {P : List (Int × Int)} (h : CeR w v P) (hb : Below w.heap.size w w') : CeR w' v P := by
  obtain ⟨a, cap, e, h1, h2, h3, h4⟩ := h
  refine ⟨a, cap, e, h1, h2, h3, fun i x hx => ?_⟩
  obtain ⟨g, o, e1, e2, e3, e4⟩ := h4 i x hx
  exact ⟨g, o, e1, Nat.lt_of_lt_of_le e2 hb.size, (hb.cell (p := ⟨g, _, none⟩) e2).trans e3, (hb.cell (p := ⟨g, _, none⟩) e2).trans e4⟩
def costF : Int → Int → List (Int × Int) → Int → Int
  | _, _, [], n => n
  | x, y, q :: r, n => if dirN x y q.1 q.2 < 0 then -1 else costF q.1 q.2 r (n + co (dirN x y q.1 q.2))
def costV (x y : Int) (P : List (Int × Int)) : Int := if 16384 < P.length then -1 else costF x y P 0
theorem co_range (d : Int) : 0 ≤ co d ∧ co d ≤ 14 := by
  unfold co
  split
  · split <;> omega
  · omega
theorem drop_cons' {P : List (Int × Int)} {k : Nat} {q : Int × Int} (h : P[k]? = some q) : P.drop k = q :: P.drop (k + 1) := by
  obtain ⟨hl, hq⟩ := List.getElem?_eq_some_iff.1 h
  rw [List.drop_eq_getElem_cons hl, hq]
set_option maxRecDepth 100000 in
set_option maxHeartbeats 4000000 in
theorem pcost_any (x y : Int) (v : Value) (P : List (Int × Int)) (w : World) (hv : CeR w v P) (ho : Offs w) :
    Calls Tryd.prog 22 #[cel x y, v] w fun e w' => e = .returned (.int .i64 (costV x y P)) ∧ Below w.heap.size w w' := by
  have hv' := hv
  obtain ⟨a, cap, rfl, hcap, hmax, -, -⟩ := hv'
  have hl63 : (0 : Int) ≤ (P.length : Nat) ∧ ((P.length : Nat) : Int) ≤ 9223372036854775807 := by
    have : P.length ≤ 9223372036854775807 := hmax
    omega
  have B0 : Below w.heap.size w (w.alloc (.cells #[.int .i64 x, .int .i64 y] 25)) := box1 _ _
  have T0 : Two (w.alloc (.cells #[.int .i64 x, .int .i64 y] 25)) w.heap.size x y := Two.newAt rfl
  obtain ⟨X, hX⟩ : ∃ X, w.alloc (.cells #[.int .i64 x, .int .i64 y] 25) = X := ⟨_, rfl⟩
  rw [hX] at B0 T0
  by_cases hlong : (16384 : Int) < (P.length : Nat)
  · rw [show costV x y P = -1 by rw [costV, if_pos (by omega)]]
    go_enter Tryd.func22, Tryd.ntmps22
    go_wp2_with fail
    go_ret
    exact ⟨rfl, B0⟩
  obtain ⟨c, hc⟩ : ∃ c, costV x y P = c := ⟨_, rfl⟩
  have hc0 : costF x y P 0 = c := by rw [← hc, costV, if_neg (by omega)]
  rw [hc]
  clear hc
  go_enter Tryd.func22, Tryd.ntmps22
  go_wp2_with fail
  clear hX
  go_loopw [5, 14] (fun s5 s14 wr => ∃ (k : Nat) (fx fy n : Int), k ≤ P.length ∧ s14 = .int .i64 k ∧ s5 = .int .i64 n ∧ (0 ≤ n ∧ n ≤ 14 * k) ∧ costF fx fy (P.drop k) n = c ∧ Two wr w.heap.size fx fy ∧ Below w.heap.size w wr) (fun s5 s14 _ => P.length - (intOf s14).toNat)
  case atStart => exact ⟨0, x, y, 0, Nat.zero_le _, rfl, rfl, by omega, by simpa using hc0, T0, B0⟩
  case round =>
    obtain ⟨k, fx, fy, n, hk, rfl, rfl, hn, hco, hT, hB⟩ := hrel
    by_cases hlt : k < P.length
    · obtain ⟨q, hq⟩ : ∃ q, P[k]? = some q := ⟨_, List.getElem?_eq_getElem hlt⟩
      obtain ⟨g, o, hga, c0, c1⟩ : ∃ g o, a = some ⟨g, o, none⟩ ∧ wr.cell? ⟨g, o + k * 2, none⟩ = some (.int .i64 q.1) ∧ wr.cell? ⟨g, o + k * 2 + 1, none⟩ = some (.int .i64 q.2) := by
        obtain ⟨a', cap', he', _, _, _, hform⟩ := hv.kept hB
        obtain ⟨g', o', hgg, _, e1, e2⟩ := hform k q hq
        injection he' with h1 h2 h3
        exact ⟨g', o', h1.trans hgg, e1, e2⟩
      subst hga
      rw [drop_cons' hq, costF] at hco
      have hki : (k : Int) < (P.length : Nat) := by omega
      have T2 : Two (wr.alloc (.cells #[.int .i64 q.1, .int .i64 q.2] 25)) wr.heap.size q.1 q.2 := Two.newAt rfl
      have B2 : Below wr.heap.size wr (wr.alloc (.cells #[.int .i64 q.1, .int .i64 q.2] 25)) := box1 _ _
      have TF := hT.kept B2
      obtain ⟨wa, hwa⟩ : ∃ wa, wr.alloc (.cells #[.int .i64 q.1, .int .i64 q.2] 25) = wa := ⟨_, rfl⟩
      rw [hwa] at T2 B2 TF
      obtain ⟨⟨f0, f1⟩, -, -⟩ := id TF
      obtain ⟨⟨t0, t1⟩, -, -⟩ := id T2
      obtain ⟨d, hd⟩ : ∃ d, dirN fx fy q.1 q.2 = d := ⟨_, rfl⟩
      have HD := hide (dir_any fx fy q.1 q.2 wa (ho.kept (bt hB B2)))
      rw [hd] at HD hco
      have hrg := co_range d
      clear hd
      go_wp2_with fail
      refine HD.out.mono ?_
      rintro e w2 ⟨rfl, hb2⟩
      have TF2 := TF.kept hb2
      have T22 := T2.kept hb2
      have HB2 := hide (bt hB (bt B2 hb2))
      clear HD c0 c1 f0 f1 t0 t1 hwa TF T2 B2 hb2 hT hB
      by_cases hneg : d < 0
      · rw [if_pos hneg] at hco
        go_wp2_with fail
        go_ret
        exact ⟨ret_int hco, HB2.out⟩
      · rw [if_neg hneg] at hco
        obtain ⟨⟨f0, f1⟩, ⟨f2, f3⟩, fz⟩ := id TF2
        obtain ⟨⟨t0, t1⟩, -, -⟩ := id T22
        have hw : IntKind.i64.wrap (n + co d) = n + co d := by rw [IntKind.wrap_i64]; omega
        go_wp2_with (go_at_call 48; refine (cost_any _ _).mono ?_; rintro e w' ⟨rfl, rfl⟩)
        go_roundw
        case rel =>
          refine ⟨k + 1, q.1, q.2, n + co d, by omega, by go_num, rfl, by omega, hco, ?_, ?_⟩
          · exact Two.set TF2
          · exact (HB2.out.setCell (p := ⟨w.heap.size, 0, none⟩) (by simp) _).setCell (p := ⟨w.heap.size, 1, none⟩) (by simp) _
        case measure => simp [intOf]; omega
    · obtain rfl : k = P.length := by omega
      rw [List.drop_length, costF] at hco
      have hki : ¬ ((P.length : Nat) : Int) < (P.length : Nat) := by omega
      go_wp2_with fail
      go_ret
      exact ⟨rfl, hB⟩
theorem refdir_is {x y tx ty d : Int} (w : World) (h : dirN x y tx ty = d) : Calls Tryd.prog 19 #[.agg #[.int .i64 x, .int .i64 y], .agg #[.int .i64 tx, .int .i64 ty]] w fun e w' => e = .returned (.int .i64 d) ∧ Below w.heap.size w w' := by subst h; exact refdir_any x y tx ty w
theorem dir_is {x y tx ty d : Int} (w : World) (ho : Offs w) (h : dirN x y tx ty = d) : Calls Tryd.prog 47 #[.agg #[.int .i64 x, .int .i64 y], .agg #[.int .i64 tx, .int .i64 ty]] w fun e w' => e = .returned (.int .i64 d) ∧ Below w.heap.size w w' := by subst h; exact dir_any x y tx ty w ho
set_option maxRecDepth 100000 in
set_option maxHeartbeats 4000000 in
theorem refpcost_any (x y : Int) (v : Value) (P : List (Int × Int)) (w : World) (hv : CeR w v P) :
    Calls Tryd.prog 23 #[cel x y, v] w fun e w' => e = .returned (.int .i64 (costV x y P)) ∧ Below w.heap.size w w' := by
  have hv' := hv
  obtain ⟨a, cap, rfl, hcap, hmax, -, -⟩ := hv'
  have hl63 : (0 : Int) ≤ (P.length : Nat) ∧ ((P.length : Nat) : Int) ≤ 9223372036854775807 := by
    have : P.length ≤ 9223372036854775807 := hmax
    omega
  have B0 : Below w.heap.size w (w.alloc (.cells #[.int .i64 x, .int .i64 y] 25)) := box1 _ _
  have T0 : Two (w.alloc (.cells #[.int .i64 x, .int .i64 y] 25)) w.heap.size x y := Two.newAt rfl
  obtain ⟨X, hX⟩ : ∃ X, w.alloc (.cells #[.int .i64 x, .int .i64 y] 25) = X := ⟨_, rfl⟩
  rw [hX] at B0 T0
  by_cases hlong : (16384 : Int) < (P.length : Nat)
  · rw [show costV x y P = -1 by rw [costV, if_pos (by omega)]]
    go_enter Tryd.func23, Tryd.ntmps23
    go_wp2_with fail
    go_ret
    exact ⟨rfl, B0⟩
  obtain ⟨c, hc⟩ : ∃ c, costV x y P = c := ⟨_, rfl⟩
  have hc0 : costF x y P 0 = c := by rw [← hc, costV, if_neg (by omega)]
  rw [hc]
  clear hc
  go_enter Tryd.func23, Tryd.ntmps23
  go_wp2_with fail
  clear hX
  go_loopw [5, 6] (fun s5 s6 wr => ∃ (k : Nat) (fx fy n : Int), k ≤ P.length ∧ s6 = .int .i64 k ∧ s5 = .int .i64 n ∧ (0 ≤ n ∧ n ≤ 14 * k) ∧ costF fx fy (P.drop k) n = c ∧ Two wr w.heap.size fx fy ∧ Below w.heap.size w wr) (fun s5 s6 _ => P.length - (intOf s6).toNat)
  case atStart => exact ⟨0, x, y, 0, Nat.zero_le _, rfl, rfl, by omega, by simpa using hc0, T0, B0⟩
  case round =>
    obtain ⟨k, fx, fy, n, hk, rfl, rfl, hn, hco, hT, hB⟩ := hrel
    by_cases hlt : k < P.length
    · obtain ⟨q, hq⟩ : ∃ q, P[k]? = some q := ⟨_, List.getElem?_eq_getElem hlt⟩
      obtain ⟨g, o, hga, hgl, c0, c1⟩ : ∃ g o, a = some ⟨g, o, none⟩ ∧ g < wr.heap.size ∧ wr.cell? ⟨g, o + k * 2, none⟩ = some (.int .i64 q.1) ∧ wr.cell? ⟨g, o + k * 2 + 1, none⟩ = some (.int .i64 q.2) := by
        obtain ⟨a', cap', he', _, _, _, hform⟩ := hv.kept hB
        obtain ⟨g', o', hgg, h0, e1, e2⟩ := hform k q hq
        injection he' with h1 h2 h3
        exact ⟨g', o', h1.trans hgg, h0, e1, e2⟩
      subst hga
      rw [drop_cons' hq, costF] at hco
      have hki : (k : Int) < (P.length : Nat) := by omega
      have l0 : ∀ n : Lat wr, n.w.cell? ⟨g, o + k * 2, none⟩ = some (.int .i64 q.1) := fun n => (n.h.cell (p := ⟨g, _, none⟩) hgl).trans c0
      have l1 : ∀ n : Lat wr, n.w.cell? ⟨g, o + k * 2 + 1, none⟩ = some (.int .i64 q.2) := fun n => (n.h.cell (p := ⟨g, _, none⟩) hgl).trans c1
      obtain ⟨f0, f1⟩ := hT.lat
      have hne := lat_some wr
      obtain ⟨d, hd⟩ : ∃ d, dirN fx fy q.1 q.2 = d := ⟨_, rfl⟩
      have HD := hide hd
      rw [hd] at hco
      have hrg := co_range d
      clear hd c0 c1
      go_wp2_with fail
      refine wp_region_lat (by kernel_rfl) (by kernel_rfl) ?_
      repeat (go_big_quiet_step (first | (go_at_call 19; exact calls_lat (refdir_is _ HD.out))))
      refine wpQuiet_nil ?_
      rintro _ ⟨m, rfl⟩
      have TF2 := hT.kept m.h
      have HB2 := hide (bt hB m.h)
      have t0 := l0 m
      have t1 := l1 m
      clear HD l0 l1 f0 f1 hT hB
      by_cases hneg : d < 0
      · rw [if_pos hneg] at hco
        go_wp2_with fail
        go_ret
        exact ⟨ret_int hco, HB2.out⟩
      · rw [if_neg hneg] at hco
        obtain ⟨⟨f0, f1⟩, ⟨f2, f3⟩, fz⟩ := id TF2
        have hw : IntKind.i64.wrap (n + co d) = n + co d := by rw [IntKind.wrap_i64]; omega
        go_wp2_with (go_at_call 49; refine (refcost_any _ _).mono ?_; rintro e w' ⟨rfl, rfl⟩)
        go_roundw
        case rel =>
          refine ⟨k + 1, q.1, q.2, n + co d, by omega, by go_num, rfl, by omega, hco, ?_, ?_⟩
          · exact Two.set TF2
          · exact (HB2.out.setCell (p := ⟨w.heap.size, 0, none⟩) (by simp) _).setCell (p := ⟨w.heap.size, 1, none⟩) (by simp) _
        case measure => simp [intOf]; omega
    · obtain rfl : k = P.length := by omega
      rw [List.drop_length, costF] at hco
      have hki : ¬ ((P.length : Nat) : Int) < (P.length : Nat) := by omega
      go_wp2_with fail
      go_ret
      exact ⟨rfl, hB⟩
end Go.Proofs.YthacppifndakjaaDoor
namespace Go.Proofs.YthacppifndakjaaDoor
open Go.RowKit
set_option linter.unusedVariables false
def legF (S : Int → Int → Bool) : Int → Int → List (Int × Int) → Bool
  | _, _, [] => true
  | x, y, q :: r => lg S x y (dirN x y q.1 q.2) && legF S q.1 q.2 r
def legV (S : Int → Int → Bool) (x y : Int) (P : List (Int × Int)) : Bool := S x y && legF S x y P
theorem lg_neg {S : Int → Int → Bool} {x y d : Int} (h : d < 0) : lg S x y d = false := by
  have h1 : isD d = false := (isD_not d).2 (by omega)
  have : sB x y d = false := sB_no1 h1
  simp [lg, this]
set_option maxRecDepth 100000 in
set_option maxHeartbeats 4000000 in
theorem legal_of (p : Nat) (S : Int → Int → Bool) (c s x y : Int) (v : Value) (P : List (Int × Int)) (w : World) (hv : CeR w v P)
    (HS : ∀ wx, Below w.heap.size w wx → ∀ x y, Calls Tryd.prog 16 #[ptr p, shv c s, cel x y] wx fun e w' => e = .returned (.bool (S x y)) ∧ Below wx.heap.size wx w')
    (HT : ∀ wx, Below w.heap.size w wx → ∀ x y d, Calls Tryd.prog 21 #[ptr p, shv c s, cel x y, .int .i64 d] wx fun e w' => e = .returned (.bool (lg S x y d)) ∧ Below wx.heap.size wx w')
    (HD : ∀ wx, Below w.heap.size w wx → Offs wx) :
    Calls Tryd.prog 24 #[ptr p, shv c s, cel x y, v] w fun e w' => e = .returned (.bool (legV S x y P)) ∧ Below w.heap.size w w' := by
  have hv' := hv
  obtain ⟨a, cap, rfl, hcap, hmax, -, -⟩ := hv'
  have hl63 : (0 : Int) ≤ (P.length : Nat) ∧ ((P.length : Nat) : Int) ≤ 9223372036854775807 := by
    have : P.length ≤ 9223372036854775807 := hmax
    omega
  have B0 := box2 w (.cells #[.int .i64 c, .int .i64 s] 23) (.cells #[.int .i64 x, .int .i64 y] 25)
  have S0 : Two ((w.alloc (.cells #[.int .i64 c, .int .i64 s] 23)).alloc (.cells #[.int .i64 x, .int .i64 y] 25)) w.heap.size c s := (Two.newAt rfl).alloc
  have C0 : Two ((w.alloc (.cells #[.int .i64 c, .int .i64 s] 23)).alloc (.cells #[.int .i64 x, .int .i64 y] 25)) (w.heap.size + 1) x y := Two.newAt (by simp)
  obtain ⟨X, hX⟩ : ∃ X, (w.alloc (.cells #[.int .i64 c, .int .i64 s] 23)).alloc (.cells #[.int .i64 x, .int .i64 y] 25) = X := ⟨_, rfl⟩
  rw [hX] at B0 S0 C0
  have HT' : Hid (∀ wx (b : Bool) u v d, Below w.heap.size w wx → lg S u v d = b → Calls Tryd.prog 21 #[ptr p, shv c s, cel u v, .int .i64 d] wx fun e w' => e = .returned (.bool b) ∧ Below wx.heap.size wx w') := hide fun wx b u v d hb he => he ▸ HT wx hb u v d
  have HS' := hide (HS X B0 x y)
  have HO := hide HD
  obtain ⟨⟨s0, s1⟩, -, -⟩ := id S0
  obtain ⟨⟨c0, c1⟩, -, -⟩ := id C0
  unfold legV
  clear HT HS HD
  cases g : S x y
  · rw [g] at HS'
    go_enter Tryd.func24, Tryd.ntmps24
    go_wp2_with fail
    refine HS'.out.mono ?_
    rintro e w1 ⟨rfl, hb1⟩
    have HB1 := hide (bt B0 hb1)
    clear hX s0 s1 c0 c1 hb1
    go_wp2_with fail
    go_ret
    exact ⟨rfl, HB1.out⟩
  · rw [g] at HS'
    obtain ⟨r, hr⟩ : ∃ r, (true && legF S x y P) = r := ⟨_, rfl⟩
    have hc0 : legF S x y P = r := by rw [← hr, Bool.true_and]
    rw [hr]
    clear hr
    go_enter Tryd.func24, Tryd.ntmps24
    go_wp2_with fail
    refine HS'.out.mono ?_
    rintro e w1 ⟨rfl, hb1⟩
    have S1 := S0.kept hb1
    have C1 := C0.kept hb1
    have B1 := bt B0 hb1
    clear hX s0 s1 c0 c1 hb1 S0 C0 B0 HS'
    go_wp2_with fail
    go_loopw [18] (fun s18 wr => ∃ (k : Nat) (fx fy : Int), k ≤ P.length ∧ s18 = .int .i64 k ∧ legF S fx fy (P.drop k) = r ∧ Two wr (w.heap.size + 1) fx fy ∧ Two wr w.heap.size c s ∧ Below w.heap.size w wr) (fun s18 _ => P.length - (intOf s18).toNat)
    case atStart => exact ⟨0, x, y, Nat.zero_le _, rfl, by simpa using hc0, C1, S1, B1⟩
    case round =>
      obtain ⟨k, fx, fy, hk, rfl, hco, hT, hS, hB⟩ := hrel
      by_cases hlt : k < P.length
      · obtain ⟨q, hq⟩ : ∃ q, P[k]? = some q := ⟨_, List.getElem?_eq_getElem hlt⟩
        obtain ⟨g, o, hga, c0, c1⟩ : ∃ g o, a = some ⟨g, o, none⟩ ∧ wr.cell? ⟨g, o + k * 2, none⟩ = some (.int .i64 q.1) ∧ wr.cell? ⟨g, o + k * 2 + 1, none⟩ = some (.int .i64 q.2) := by
          obtain ⟨a', cap', he', _, _, _, hform⟩ := hv.kept hB
          obtain ⟨g', o', hgg, _, e1, e2⟩ := hform k q hq
          injection he' with h1 h2 h3
          exact ⟨g', o', h1.trans hgg, e1, e2⟩
        subst hga
        rw [drop_cons' hq, legF] at hco
        have hki : (k : Int) < (P.length : Nat) := by omega
        have T2 : Two (wr.alloc (.cells #[.int .i64 q.1, .int .i64 q.2] 25)) wr.heap.size q.1 q.2 := Two.newAt rfl
        have B2 : Below wr.heap.size wr (wr.alloc (.cells #[.int .i64 q.1, .int .i64 q.2] 25)) := box1 _ _
        have TF := hT.kept B2
        have TS := hS.kept B2
        have BW := bt hB B2
        obtain ⟨wa, hwa⟩ : ∃ wa, wr.alloc (.cells #[.int .i64 q.1, .int .i64 q.2] 25) = wa := ⟨_, rfl⟩
        rw [hwa] at T2 B2 TF TS BW
        obtain ⟨f0, f1⟩ := TF.lat
        obtain ⟨t0, t1⟩ := T2.lat
        obtain ⟨s0, s1⟩ := TS.lat
        have hne := lat_some wa
        obtain ⟨d, hd⟩ : ∃ d, dirN fx fy q.1 q.2 = d := ⟨_, rfl⟩
        have HDd := hide hd
        rw [hd] at hco
        have HBW : Hid (∀ n : Lat wa, Below w.heap.size w n.w) := hide fun n => bt BW n.h
        clear hd
        cases hlg : lg S fx fy d
        · have HLG := hide hlg
          rw [hlg, Bool.false_and] at hco
          have HCO := hide hco
          clear hlg hco
          go_wp2_with fail
          clear hwa c0 c1
          refine wp_region_lat (by kernel_rfl) (by kernel_rfl) ?_
          repeat (go_big_quiet_step (first | (go_at_call 47; exact calls_lat (dir_is _ (HO.out _ (HBW.out _)) HDd.out)) | (go_at_call 21; exact calls_lat (HT'.out _ _ _ _ _ (HBW.out _) HLG.out))))
          refine wpQuiet_nil ?_
          rintro _ ⟨m, rfl⟩
          go_wp2_with fail
          go_ret
          exact ⟨ret_bool HCO.out, HBW.out m⟩
        · have HLG := hide hlg
          rw [hlg, Bool.true_and] at hco
          have HCO := hide hco
          clear hlg hco
          go_wp2_with fail
          clear hwa c0 c1
          refine wp_region_lat (by kernel_rfl) (by kernel_rfl) ?_
          repeat (go_big_quiet_step (first | (go_at_call 47; exact calls_lat (dir_is _ (HO.out _ (HBW.out _)) HDd.out)) | (go_at_call 21; exact calls_lat (HT'.out _ _ _ _ _ (HBW.out _) HLG.out))))
          refine wpQuiet_nil ?_
          rintro _ ⟨m, rfl⟩
          have TF2 := TF.kept m.h
          have TS2 := TS.kept m.h
          have t00 := t0 m
          have t11 := t1 m
          obtain ⟨⟨g0, g1⟩, ⟨g2, g3⟩, gz⟩ := id TF2
          clear f0 f1 t0 t1 s0 s1
          go_wp2_with fail
          go_roundw
          case rel =>
            refine ⟨k + 1, q.1, q.2, by omega, by go_num, HCO.out, Two.set TF2, TS2.other (by omega), ?_⟩
            exact ((HBW.out m).setCell (p := ⟨w.heap.size + 1, 0, none⟩) (by simp) _).setCell (p := ⟨w.heap.size + 1, 1, none⟩) (by simp) _
          case measure => simp [intOf]; omega
      · obtain rfl : k = P.length := by omega
        rw [List.drop_length, legF] at hco
        have HCO := hide hco
        clear hco
        have hki : ¬ ((P.length : Nat) : Int) < (P.length : Nat) := by omega
        go_wp2_with fail
        go_ret
        exact ⟨ret_bool HCO.out, hB⟩
set_option maxRecDepth 100000 in
set_option maxHeartbeats 4000000 in
theorem reflegal_of (p : Nat) (S : Int → Int → Bool) (c s x y : Int) (v : Value) (P : List (Int × Int)) (w : World) (hv : CeR w v P)
    (HS : ∀ wx, Below w.heap.size w wx → ∀ x y, Calls Tryd.prog 17 #[ptr p, shv c s, cel x y] wx fun e w' => e = .returned (.bool (S x y)) ∧ Below wx.heap.size wx w')
    (HT : ∀ wx, Below w.heap.size w wx → ∀ x y d, Calls Tryd.prog 20 #[ptr p, shv c s, cel x y, .int .i64 d] wx fun e w' => e = .returned (.bool (lg S x y d)) ∧ Below wx.heap.size wx w') :
    Calls Tryd.prog 25 #[ptr p, shv c s, cel x y, v] w fun e w' => e = .returned (.bool (legV S x y P)) ∧ Below w.heap.size w w' := by
  have hv' := hv
  obtain ⟨a, cap, rfl, hcap, hmax, -, -⟩ := hv'
  have hl63 : (0 : Int) ≤ (P.length : Nat) ∧ ((P.length : Nat) : Int) ≤ 9223372036854775807 := by
    have : P.length ≤ 9223372036854775807 := hmax
    omega
  have B0 := box2 w (.cells #[.int .i64 c, .int .i64 s] 23) (.cells #[.int .i64 x, .int .i64 y] 25)
  have S0 : Two ((w.alloc (.cells #[.int .i64 c, .int .i64 s] 23)).alloc (.cells #[.int .i64 x, .int .i64 y] 25)) w.heap.size c s := (Two.newAt rfl).alloc
  have C0 : Two ((w.alloc (.cells #[.int .i64 c, .int .i64 s] 23)).alloc (.cells #[.int .i64 x, .int .i64 y] 25)) (w.heap.size + 1) x y := Two.newAt (by simp)
  obtain ⟨X, hX⟩ : ∃ X, (w.alloc (.cells #[.int .i64 c, .int .i64 s] 23)).alloc (.cells #[.int .i64 x, .int .i64 y] 25) = X := ⟨_, rfl⟩
  rw [hX] at B0 S0 C0
  have HT' : Hid (∀ wx (b : Bool) u v d, Below w.heap.size w wx → lg S u v d = b → Calls Tryd.prog 20 #[ptr p, shv c s, cel u v, .int .i64 d] wx fun e w' => e = .returned (.bool b) ∧ Below wx.heap.size wx w') := hide fun wx b u v d hb he => he ▸ HT wx hb u v d
  have HS' := hide (HS X B0 x y)
  obtain ⟨⟨s0, s1⟩, -, -⟩ := id S0
  obtain ⟨⟨c0, c1⟩, -, -⟩ := id C0
  unfold legV
  clear HT HS
  cases g : S x y
  · rw [g] at HS'
    go_enter Tryd.func25, Tryd.ntmps25
    go_wp2_with fail
    refine HS'.out.mono ?_
    rintro e w1 ⟨rfl, hb1⟩
    have HB1 := hide (bt B0 hb1)
    clear hX s0 s1 c0 c1 hb1
    go_wp2_with fail
    go_ret
    exact ⟨rfl, HB1.out⟩
  · rw [g] at HS'
    obtain ⟨r, hr⟩ : ∃ r, (true && legF S x y P) = r := ⟨_, rfl⟩
    have hc0 : legF S x y P = r := by rw [← hr, Bool.true_and]
    rw [hr]
    clear hr
    go_enter Tryd.func25, Tryd.ntmps25
    go_wp2_with fail
    refine HS'.out.mono ?_
    rintro e w1 ⟨rfl, hb1⟩
    have S1 := S0.kept hb1
    have C1 := C0.kept hb1
    have B1 := bt B0 hb1
    clear hX s0 s1 c0 c1 hb1 S0 C0 B0 HS'
    go_wp2_with fail
    go_loopw [9] (fun s18 wr => ∃ (k : Nat) (fx fy : Int), k ≤ P.length ∧ s18 = .int .i64 k ∧ legF S fx fy (P.drop k) = r ∧ Two wr (w.heap.size + 1) fx fy ∧ Two wr w.heap.size c s ∧ Below w.heap.size w wr) (fun s18 _ => P.length - (intOf s18).toNat)
    case atStart => exact ⟨0, x, y, Nat.zero_le _, rfl, by simpa using hc0, C1, S1, B1⟩
    case round =>
      obtain ⟨k, fx, fy, hk, rfl, hco, hT, hS, hB⟩ := hrel
      by_cases hlt : k < P.length
      · obtain ⟨q, hq⟩ : ∃ q, P[k]? = some q := ⟨_, List.getElem?_eq_getElem hlt⟩
        obtain ⟨g, o, hga, hgl, c0, c1⟩ : ∃ g o, a = some ⟨g, o, none⟩ ∧ g < wr.heap.size ∧ wr.cell? ⟨g, o + k * 2, none⟩ = some (.int .i64 q.1) ∧ wr.cell? ⟨g, o + k * 2 + 1, none⟩ = some (.int .i64 q.2) := by
          obtain ⟨a', cap', he', _, _, _, hform⟩ := hv.kept hB
          obtain ⟨g', o', hgg, h0, e1, e2⟩ := hform k q hq
          injection he' with h1 h2 h3
          exact ⟨g', o', h1.trans hgg, h0, e1, e2⟩
        subst hga
        rw [drop_cons' hq, legF] at hco
        have hki : (k : Int) < (P.length : Nat) := by omega
        have l0 : ∀ n : Lat wr, n.w.cell? ⟨g, o + k * 2, none⟩ = some (.int .i64 q.1) := fun n => (n.h.cell (p := ⟨g, _, none⟩) hgl).trans c0
        have l1 : ∀ n : Lat wr, n.w.cell? ⟨g, o + k * 2 + 1, none⟩ = some (.int .i64 q.2) := fun n => (n.h.cell (p := ⟨g, _, none⟩) hgl).trans c1
        obtain ⟨f0, f1⟩ := hT.lat
        have hne := lat_some wr
        obtain ⟨d, hd⟩ : ∃ d, dirN fx fy q.1 q.2 = d := ⟨_, rfl⟩
        have HDd := hide hd
        rw [hd] at hco
        have HCO := hide hco
        clear hd c0 c1 hco
        go_wp2_with fail
        refine wp_region_lat (by kernel_rfl) (by kernel_rfl) ?_
        repeat (go_big_quiet_step (first | (go_at_call 19; exact calls_lat (refdir_is _ HDd.out))))
        refine wpQuiet_nil ?_
        rintro _ ⟨m, rfl⟩
        have TF2 := hT.kept m.h
        have TS2 := hS.kept m.h
        have HB2 := hide (bt hB m.h)
        have t0 := l0 m
        have t1 := l1 m
        clear HDd l0 l1 f0 f1 hT hS hB
        by_cases hneg : d < 0
        · have hF := HCO.out
          rw [lg_neg hneg, Bool.false_and] at hF
          have HF := hide hF
          clear hF
          go_wp2_with fail
          go_ret
          exact ⟨ret_bool HF.out, HB2.out⟩
        · obtain ⟨⟨f0, f1⟩, -, -⟩ := id TF2
          obtain ⟨⟨s0, s1⟩, -, -⟩ := id TS2
          cases hlg : lg S fx fy d
          · have hF := HCO.out
            rw [hlg, Bool.false_and] at hF
            have HF := hide hF
            have HLG := hide hlg
            clear hF hlg
            go_wp2_with fail
            refine (HT'.out _ _ _ _ _ HB2.out HLG.out).mono ?_
            rintro e w3 ⟨rfl, hb3⟩
            have HB3 := hide (bt HB2.out hb3)
            clear f0 f1 s0 s1 t0 t1 hb3
            go_wp2_with fail
            go_ret
            exact ⟨ret_bool HF.out, HB3.out⟩
          · have hF := HCO.out
            rw [hlg, Bool.true_and] at hF
            have HF := hide hF
            have HLG := hide hlg
            clear hF hlg
            go_wp2_with fail
            refine (HT'.out _ _ _ _ _ HB2.out HLG.out).mono ?_
            rintro e w3 ⟨rfl, hb3⟩
            have HB3 := hide (bt HB2.out hb3)
            have TF3 := TF2.kept hb3
            have TS3 := TS2.kept hb3
            have u0 := (hb3.cell (p := ⟨g, o + k * 2, none⟩) (World.block_lt_of_cell? _ _ t0)).trans t0
            have u1 := (hb3.cell (p := ⟨g, o + k * 2 + 1, none⟩) (World.block_lt_of_cell? _ _ t1)).trans t1
            obtain ⟨⟨g0, g1⟩, ⟨g2, g3⟩, gz⟩ := id TF3
            clear f0 f1 s0 s1 t0 t1 hb3
            go_wp2_with fail
            go_roundw
            case rel =>
              refine ⟨k + 1, q.1, q.2, by omega, by go_num, HF.out, Two.set TF3, TS3.other (by omega), ?_⟩
              exact (HB3.out.setCell (p := ⟨w.heap.size + 1, 0, none⟩) (by simp) _).setCell (p := ⟨w.heap.size + 1, 1, none⟩) (by simp) _
            case measure => simp [intOf]; omega
      · obtain rfl : k = P.length := by omega
        rw [List.drop_length, legF] at hco
        have HCO := hide hco
        clear hco
        have hki : ¬ ((P.length : Nat) : Int) < (P.length : Nat) := by omega
        go_wp2_with fail
        go_ret
        exact ⟨ret_bool HCO.out, hB⟩
end Go.Proofs.YthacppifndakjaaDoor
