/-
  Turns: how many of a path's steps go in another direction than the one ahead. phalanxlaw15.SmoothTurns, walked.
-/
import Derived.Test.YtekpamilcpeanaaDoorLp
import Derived.Test.YtekpamilcpeanaaDoorDir
import Derived.Test.YtekpamilcpeanaaDoorGr
namespace Go.Proofs.YtekpamilcpeanaaDoor
open Go.RowKit Go.Shelf
set_option linter.unusedVariables false
set_option linter.unusedSimpArgs false
/-- How often a path turns. -/
def turnV (x y : Int) (P : List (Int × Int)) : Int := turnF (-1) x y P 0
set_option maxRecDepth 100000 in
set_option maxHeartbeats 4000000 in
theorem turns_any (x y : Int) (v : Value) (P : List (Int × Int)) (w : World) (hv : CeR w v P) (ho : Offs w) :
    Calls Tryd.prog 20 #[cel x y, v] w fun e w' => e = .returned (.int .i64 (turnV x y P)) ∧ Below w.heap.size w w' := by
  have hv' := hv
  obtain ⟨a, cap, rfl, hcap, hmax, -, -⟩ := hv'
  have hl63 : (0 : Int) ≤ (P.length : Nat) ∧ ((P.length : Nat) : Int) ≤ 9223372036854775807 := by
    have : P.length ≤ 9223372036854775807 := hmax
    omega
  have B0 : Below w.heap.size w (w.alloc (.cells #[.int .i64 x, .int .i64 y] 23)) := box1 _ _
  have T0 : Two (w.alloc (.cells #[.int .i64 x, .int .i64 y] 23)) w.heap.size x y := Two.newAt rfl
  obtain ⟨X, hX⟩ : ∃ X, w.alloc (.cells #[.int .i64 x, .int .i64 y] 23) = X := ⟨_, rfl⟩
  rw [hX] at B0 T0
  obtain ⟨c, hc⟩ : ∃ c, turnV x y P = c := ⟨_, rfl⟩
  have hc0 : turnF (-1) x y P 0 = c := hc
  rw [hc]
  have HX := hide hX
  clear hc hX
  go_enter Tryd.func20, Tryd.ntmps20
  go_wp2_with (rw [HX.out])
  go_loopw [5, 6, 12] (fun s5 s6 s7 wr => ∃ (k : Nat) (fx fy n l : Int), k ≤ P.length ∧ s5 = .int .i64 n ∧ s6 = .int .i64 l ∧ s7 = .int .i64 k ∧ (0 ≤ n ∧ n ≤ k) ∧ ((k = 0 ∧ l = -1) ∨ (0 < k ∧ 0 ≤ l ∧ l < 8)) ∧ turnF l fx fy (P.drop k) n = c ∧ Two wr w.heap.size fx fy ∧ Below w.heap.size w wr) (fun s5 s6 s7 _ => P.length - (intOf s7).toNat)
  case atStart => exact ⟨0, x, y, 0, -1, Nat.zero_le _, rfl, rfl, rfl, by omega, .inl ⟨rfl, rfl⟩, by simpa using hc0, T0, B0⟩
  case round =>
    obtain ⟨k, fx, fy, n, l, hk, rfl, rfl, rfl, hn, hkl, hco, hT, hB⟩ := hrel
    by_cases hlt : k < P.length
    · obtain ⟨q, hq⟩ : ∃ q, P[k]? = some q := ⟨_, List.getElem?_eq_getElem hlt⟩
      obtain ⟨g, o, hga, hgl, c0, c1⟩ : ∃ g o, a = some ⟨g, o, none⟩ ∧ g < wr.heap.size ∧ wr.cell? ⟨g, o + k * 2, none⟩ = some (.int .i64 q.1) ∧ wr.cell? ⟨g, o + k * 2 + 1, none⟩ = some (.int .i64 q.2) := by
        obtain ⟨a', cap', he', _, _, _, hform⟩ := hv.kept hB
        obtain ⟨g', o', hgg, h0, e1, e2⟩ := hform k q hq
        injection he' with h1 h2 h3
        exact ⟨g', o', h1.trans hgg, h0, e1, e2⟩
      subst hga
      rw [drop_cons' hq, turnF] at hco
      have hki : (k : Int) < (P.length : Nat) := by omega
      obtain ⟨d, hd⟩ : ∃ d, dirN fx fy q.1 q.2 = d := ⟨_, rfl⟩
      have hd8 : d < 8 := by
        rcases dirN_form fx fy q.1 q.2 with h | ⟨j, h1, -, -, -, h5⟩
        · rw [← hd, h]; decide
        · rw [← hd, h5]; omega
      rw [hd] at hco
      have T2 : Two (wr.alloc (.cells #[.int .i64 q.1, .int .i64 q.2] 23)) wr.heap.size q.1 q.2 := Two.newAt rfl
      have B2 : Below wr.heap.size wr (wr.alloc (.cells #[.int .i64 q.1, .int .i64 q.2] 23)) := box1 _ _
      have TF := hT.kept B2
      obtain ⟨wa, hwa⟩ : ∃ wa, wr.alloc (.cells #[.int .i64 q.1, .int .i64 q.2] 23) = wa := ⟨_, rfl⟩
      rw [hwa] at T2 B2 TF
      obtain ⟨⟨f0, f1⟩, -, -⟩ := id TF
      obtain ⟨⟨t0, t1⟩, -, -⟩ := id T2
      have HD := hide (dir_any fx fy q.1 q.2 wa (ho.kept (bt hB B2)))
      rw [hd] at HD
      have HWA := hide hwa
      clear hd hwa
      go_wp2_with (rw [HWA.out])
      refine HD.out.mono ?_
      rintro e w2 ⟨rfl, hb2⟩
      have TF2 := TF.kept hb2
      have T22 := T2.kept hb2
      have HB2 := hide (bt hB (bt B2 hb2))
      clear HD c0 c1 f0 f1 t0 t1 HWA TF T2 B2 hb2 hT hB
      by_cases hneg : d < 0
      · rw [if_pos hneg] at hco
        go_wp2_with fail
        go_ret
        exact ⟨ret_int hco, HB2.out⟩
      · rw [if_neg hneg] at hco
        obtain ⟨⟨f0, f1⟩, ⟨f2, f3⟩, fz⟩ := id TF2
        obtain ⟨⟨t0, t1⟩, -, -⟩ := id T22
        rcases hkl with ⟨rfl, rfl⟩ | ⟨hk0, hl0, hl8⟩
        · rw [if_neg (by omega)] at hco
          have hk0 : ¬ (0 : Int) < ((0 : Nat) : Int) := by omega
          have HCO := hide hco
          clear hco
          go_wp2_with fail
          go_roundw
          case rel =>
            have hco := HCO.out
            refine ⟨1, q.1, q.2, n, d, by omega, rfl, rfl, by go_num, by omega, .inr ⟨by omega, by omega, hd8⟩, hco, Two.set TF2, ?_⟩
            exact (HB2.out.setCell (p := ⟨w.heap.size, 0, none⟩) (by simp) _).setCell (p := ⟨w.heap.size, 1, none⟩) (by simp) _
          case measure => simp [intOf]; omega
        · have hk0i : (0 : Int) < (k : Nat) := by omega
          by_cases hdl : d = l
          · subst hdl
            rw [if_neg (fun h => h.2 rfl)] at hco
            have HCO := hide hco
            clear hco
            go_wp2_with fail
            go_roundw
            case rel =>
              have hco := HCO.out
              refine ⟨k + 1, q.1, q.2, n, d, by omega, rfl, rfl, by go_num, by omega, .inr ⟨by omega, by omega, hd8⟩, hco, Two.set TF2, ?_⟩
              exact (HB2.out.setCell (p := ⟨w.heap.size, 0, none⟩) (by simp) _).setCell (p := ⟨w.heap.size, 1, none⟩) (by simp) _
            case measure => simp [intOf]; omega
          · rw [if_pos ⟨hl0, hdl⟩] at hco
            have hw : IntKind.i64.wrap (n + 1) = n + 1 := by rw [IntKind.wrap_i64]; omega
            have HCO := hide hco
            clear hco
            go_wp2_with fail
            go_roundw
            case rel =>
              have hco := HCO.out
              refine ⟨k + 1, q.1, q.2, n + 1, d, by omega, rfl, rfl, by go_num, by omega, .inr ⟨by omega, by omega, hd8⟩, hco, Two.set TF2, ?_⟩
              exact (HB2.out.setCell (p := ⟨w.heap.size, 0, none⟩) (by simp) _).setCell (p := ⟨w.heap.size, 1, none⟩) (by simp) _
            case measure => simp [intOf]; omega
    · obtain rfl : k = P.length := by omega
      rw [List.drop_length, turnF] at hco
      have hki : ¬ ((P.length : Nat) : Int) < (P.length : Nat) := by omega
      have HCO := hide hco
      clear hco
      go_wp2_with fail
      go_ret
      exact ⟨ret_int HCO.out, hB⟩
set_option maxRecDepth 100000 in
set_option maxHeartbeats 4000000 in
theorem rturns_any (x y : Int) (v : Value) (P : List (Int × Int)) (w : World) (hv : CeR w v P) :
    Calls Tryd.prog 21 #[cel x y, v] w fun e w' => e = .returned (.int .i64 (turnV x y P)) ∧ Below w.heap.size w w' := by
  have hv' := hv
  obtain ⟨a, cap, rfl, hcap, hmax, -, -⟩ := hv'
  have hl63 : (0 : Int) ≤ (P.length : Nat) ∧ ((P.length : Nat) : Int) ≤ 9223372036854775807 := by
    have : P.length ≤ 9223372036854775807 := hmax
    omega
  have B0 : Below w.heap.size w (w.alloc (.cells #[.int .i64 x, .int .i64 y] 23)) := box1 _ _
  have T0 : Two (w.alloc (.cells #[.int .i64 x, .int .i64 y] 23)) w.heap.size x y := Two.newAt rfl
  obtain ⟨X, hX⟩ : ∃ X, w.alloc (.cells #[.int .i64 x, .int .i64 y] 23) = X := ⟨_, rfl⟩
  rw [hX] at B0 T0
  obtain ⟨c, hc⟩ : ∃ c, turnV x y P = c := ⟨_, rfl⟩
  have hc0 : turnF (-1) x y P 0 = c := hc
  rw [hc]
  have HX := hide hX
  clear hc hX
  go_enter Tryd.func21, Tryd.ntmps21
  go_wp2_with (rw [HX.out])
  go_loopw [5, 6, 7] (fun s5 s6 s7 wr => ∃ (k : Nat) (fx fy n l : Int), k ≤ P.length ∧ s5 = .int .i64 n ∧ s6 = .int .i64 l ∧ s7 = .int .i64 k ∧ (0 ≤ n ∧ n ≤ k) ∧ ((k = 0 ∧ l = -1) ∨ (0 < k ∧ 0 ≤ l ∧ l < 8)) ∧ turnF l fx fy (P.drop k) n = c ∧ Two wr w.heap.size fx fy ∧ Below w.heap.size w wr) (fun s5 s6 s7 _ => P.length - (intOf s7).toNat)
  case atStart => exact ⟨0, x, y, 0, -1, Nat.zero_le _, rfl, rfl, rfl, by omega, .inl ⟨rfl, rfl⟩, by simpa using hc0, T0, B0⟩
  case round =>
    obtain ⟨k, fx, fy, n, l, hk, rfl, rfl, rfl, hn, hkl, hco, hT, hB⟩ := hrel
    by_cases hlt : k < P.length
    · obtain ⟨q, hq⟩ : ∃ q, P[k]? = some q := ⟨_, List.getElem?_eq_getElem hlt⟩
      obtain ⟨g, o, hga, hgl, c0, c1⟩ : ∃ g o, a = some ⟨g, o, none⟩ ∧ g < wr.heap.size ∧ wr.cell? ⟨g, o + k * 2, none⟩ = some (.int .i64 q.1) ∧ wr.cell? ⟨g, o + k * 2 + 1, none⟩ = some (.int .i64 q.2) := by
        obtain ⟨a', cap', he', _, _, _, hform⟩ := hv.kept hB
        obtain ⟨g', o', hgg, h0, e1, e2⟩ := hform k q hq
        injection he' with h1 h2 h3
        exact ⟨g', o', h1.trans hgg, h0, e1, e2⟩
      subst hga
      rw [drop_cons' hq, turnF] at hco
      have hki : (k : Int) < (P.length : Nat) := by omega
      obtain ⟨d, hd⟩ : ∃ d, dirN fx fy q.1 q.2 = d := ⟨_, rfl⟩
      have hd8 : d < 8 := by
        rcases dirN_form fx fy q.1 q.2 with h | ⟨j, h1, -, -, -, h5⟩
        · rw [← hd, h]; decide
        · rw [← hd, h5]; omega
      rw [hd] at hco
      have l0 : ∀ n : Lat wr, n.w.cell? ⟨g, o + k * 2, none⟩ = some (.int .i64 q.1) := fun n => (n.h.cell (p := ⟨g, _, none⟩) hgl).trans c0
      have l1 : ∀ n : Lat wr, n.w.cell? ⟨g, o + k * 2 + 1, none⟩ = some (.int .i64 q.2) := fun n => (n.h.cell (p := ⟨g, _, none⟩) hgl).trans c1
      obtain ⟨f0, f1⟩ := hT.lat
      have hne := lat_some wr
      have HDd := hide hd
      clear hd c0 c1
      go_wp2_with fail
      refine wp_region_lat (by kernel_rfl) (by kernel_rfl) ?_
      repeat (go_big_quiet_step (first | (go_at_call 29; exact calls_lat (refdir_is _ HDd.out))))
      refine wpQuiet_nil ?_
      rintro _ ⟨m, rfl⟩
      have TF2 := hT.kept m.h
      have HB2 := hide (bt hB m.h)
      have t0 := l0 m
      have t1 := l1 m
      clear HDd l0 l1 f0 f1 hT hB
      by_cases hneg : d < 0
      · rw [if_pos hneg] at hco
        go_wp2_with fail
        go_ret
        exact ⟨ret_int hco, HB2.out⟩
      · rw [if_neg hneg] at hco
        obtain ⟨⟨f0, f1⟩, ⟨f2, f3⟩, fz⟩ := id TF2
        rcases hkl with ⟨rfl, rfl⟩ | ⟨hk0, hl0, hl8⟩
        · rw [if_neg (by omega)] at hco
          have t0' : m.w.cell? ⟨g, o, none⟩ = some (.int .i64 q.1) := by simpa using t0
          have t1' : m.w.cell? ⟨g, o + 1, none⟩ = some (.int .i64 q.2) := by simpa using t1
          clear t0 t1
          have hk0 : ¬ (0 : Int) < ((0 : Nat) : Int) := by omega
          have HCO := hide hco
          clear hco
          go_wp2_with fail
          go_roundw
          case rel =>
            have hco := HCO.out
            refine ⟨1, q.1, q.2, n, d, by omega, rfl, rfl, by go_num, by omega, .inr ⟨by omega, by omega, hd8⟩, hco, Two.set TF2, ?_⟩
            exact (HB2.out.setCell (p := ⟨w.heap.size, 0, none⟩) (by simp) _).setCell (p := ⟨w.heap.size, 1, none⟩) (by simp) _
          case measure => simp [intOf]; omega
        · have hk0i : (0 : Int) < (k : Nat) := by omega
          by_cases hdl : d = l
          · subst hdl
            rw [if_neg (fun h => h.2 rfl)] at hco
            have HCO := hide hco
            clear hco
            go_wp2_with fail
            go_roundw
            case rel =>
              have hco := HCO.out
              refine ⟨k + 1, q.1, q.2, n, d, by omega, rfl, rfl, by go_num, by omega, .inr ⟨by omega, by omega, hd8⟩, hco, Two.set TF2, ?_⟩
              exact (HB2.out.setCell (p := ⟨w.heap.size, 0, none⟩) (by simp) _).setCell (p := ⟨w.heap.size, 1, none⟩) (by simp) _
            case measure => simp [intOf]; omega
          · rw [if_pos ⟨hl0, hdl⟩] at hco
            have hw : IntKind.i64.wrap (n + 1) = n + 1 := by rw [IntKind.wrap_i64]; omega
            have HCO := hide hco
            clear hco
            go_wp2_with fail
            go_roundw
            case rel =>
              have hco := HCO.out
              refine ⟨k + 1, q.1, q.2, n + 1, d, by omega, rfl, rfl, by go_num, by omega, .inr ⟨by omega, by omega, hd8⟩, hco, Two.set TF2, ?_⟩
              exact (HB2.out.setCell (p := ⟨w.heap.size, 0, none⟩) (by simp) _).setCell (p := ⟨w.heap.size, 1, none⟩) (by simp) _
            case measure => simp [intOf]; omega
    · obtain rfl : k = P.length := by omega
      rw [List.drop_length, turnF] at hco
      have hki : ¬ ((P.length : Nat) : Int) < (P.length : Nat) := by omega
      have HCO := hide hco
      clear hco
      go_wp2_with fail
      go_ret
      exact ⟨ret_int HCO.out, hB⟩
end Go.Proofs.YtekpamilcpeanaaDoor
namespace Go.Proofs.YtekpamilcpeanaaDoor
open Go.RowKit Go.Shelf
set_option linter.unusedVariables false
set_option linter.unusedSimpArgs false
theorem Rturn : Rcl 20 := zl fun _ _ => by go_simp
theorem Rrturn : Rcl 21 := zl fun _ _ => by go_simp
theorem turns_is {x y c : Int} {v : Value} {P : List (Int × Int)} {w : World} (hv : CeR w v P) (ho : Offs w) (h : turnV x y P = c) : Calls Tryd.prog 20 #[cel x y, v] w fun e w' => e = .returned (.int .i64 c) ∧ Below w.heap.size w w' := h ▸ turns_any x y v P w hv ho
theorem rturns_is {x y c : Int} {v : Value} {P : List (Int × Int)} {w : World} (hv : CeR w v P) (h : turnV x y P = c) : Calls Tryd.prog 21 #[cel x y, v] w fun e w' => e = .returned (.int .i64 c) ∧ Below w.heap.size w w' := h ▸ rturns_any x y v P w hv
set_option maxRecDepth 100000 in
set_option maxHeartbeats 4000000 in
theorem turns_walk (x y : Int) (v : Value) (P : List (Int × Int)) (w : World) (hv : CeR w v P) (hlen : P.length * 16 ≤ 140737488355328) (hg : Grnd w) (ho : Offs w) :
    Calls Tryd.prog 6 #[cel x y, v] w fun e w' => e = .returned (.bool true) ∧ Below w.heap.size w w' := by
  have hv' := hv
  obtain ⟨a, cap, rfl, hcap, hmax, -, -⟩ := hv'
  obtain ⟨X, hX⟩ : ∃ X, w.alloc (.cells #[.int .i64 x, .int .i64 y] 23) = X := ⟨_, rfl⟩
  obtain ⟨Y, hY⟩ : ∃ Y, X.drew = Y := ⟨_, rfl⟩
  have B0 : Below w.heap.size w Y := by rw [← hY, ← hX]; exact (box1 _ _).drew
  have T0 : Two Y w.heap.size x y := by rw [← hY, ← hX]; exact (Two.newAt rfl).kept (Below.refl _ _).drew
  obtain ⟨c, hc⟩ : ∃ c, turnV x y P = c := ⟨_, rfl⟩
  have HK : Hid (∀ wx, Below Y.heap.size Y wx → wx.cell? ⟨w.heap.size, 0, none⟩ = some (.int .i64 x) ∧ wx.cell? ⟨w.heap.size, 1, none⟩ = some (.int .i64 y)) := hide fun wx hx => (T0.kept hx).1
  obtain ⟨v3, W3, hr3, hc3, hb3⟩ := append_path Y a cap P (hv.kept B0) hlen
  have HA := hide (turns_is (x := x) (y := y) hc3 (ho.kept (bt B0 hb3)) hc)
  have HR := hide hr3
  have HX := hide (And.intro hX hY)
  have H := hide (And.intro (And.intro B0 hb3) (And.intro hv (And.intro hg ho)))
  have HCC := hide hc
  obtain ⟨va, vn, rfl⟩ : ∃ va vn, v3 = .slice va P.length vn := by obtain ⟨va, vn, e, -⟩ := hc3; exact ⟨va, vn, e⟩
  clear hX hY B0 T0 hr3 hc3 hb3 hv hg ho hc
  go_enter Tryd.func6, Tryd.ntmps6
  go_wp2_with (rw [HX.out.1])
  refine wp_only ?_
  refine wp_region_z (fun wx : World => Below Y.heap.size Y wx) [] (by kernel_rfl) ?_
  rw [HX.out.2]
  refine zx 0 1 16 rfl (by kernel_rfl) (Below.refl _ _) ?_
  refine zxc (v := cel x y) rfl (by rfl) (fun wx hx => by obtain ⟨k0, k1⟩ := HK.out wx hx; go_simp) ?_
  simp only [zp]
  refine zxn ?_
  refine zx 2 1 16 rfl (by kernel_rfl) (Below.refl _ _) ?_
  refine zxc rfl (by rfl) (fun wx hx => by go_simp; rfl) ?_
  simp only [zp]
  refine zxn ?_
  refine zx 5 2 16 rfl (by kernel_rfl) (Below.refl _ _) ?_
  refine zxc (v := cel x y) rfl (by rfl) (fun wx hx => by obtain ⟨k0, k1⟩ := HK.out wx hx; go_simp) ?_
  simp only [zp]
  refine zxc rfl (by rfl) (fun wx hx => by go_simp; rfl) ?_
  simp only [zp]
  refine zxn ?_
  refine zq 1 (v' := .slice (some ⟨Y.heap.size, 0, none⟩) 0 0) (w' := Y.alloc (.cells #[] 23)) (by kernel_rfl) rfl rfl (by go_simp) (fun _ => box1 _ _) ?_
  simp only [zp]
  obtain ⟨⟨B0, hb3⟩, hv, hg, ho⟩ := H.out
  refine zq 3 (by kernel_rfl) rfl rfl (run_appC rfl rfl rfl rfl HR.out) (fun _ => hb3) ?_
  simp only [zp]
  refine zw 4 [] (by kernel_rfl) ?_
  refine readyZ.call rfl rfl (Rturn (by rfl) (by rfl) (by simp only [zj]; rfl)) HA.out ?_ readyZ.nil
  rintro e W4 ⟨rfl, hb4⟩
  refine ⟨_, rfl, fun _ => bt hb3 hb4, ?_⟩
  simp only [zp]
  have bw4 := bt B0 (bt hb3 hb4)
  refine zw 7 [] (by kernel_rfl) ?_
  refine readyZ.call rfl rfl (Rrturn (by rfl) (by rfl) (by simp only [zj]; rfl)) (rturns_is (hv.kept bw4) HCC.out) ?_ readyZ.nil
  rintro e W5 ⟨rfl, hb5⟩
  have by5 := bt (bt hb3 hb4) hb5
  refine ⟨_, rfl, fun _ => by5, ?_⟩
  simp only [zp]
  refine zx 8 2 16 rfl (by kernel_rfl) by5 ?_
  refine zxc (v := .bool true) rfl (by rfl) (fun wx hx => by go_simp) ?_
  simp only [zp]
  refine zxc (v := .bool true) rfl (by rfl) (fun wx hx => by go_simp) ?_
  simp only [zp]
  refine zxn ?_
  have bw5 := bt bw4 hb5
  refine zw 10 [] (by kernel_rfl) ?_
  refine readyZ.callG rfl (by rfl) (Rawk (by rfl) (by rfl) (by simp only [zj])) (awake_is W5 (hg.kept bw5) (ho.kept bw5)) ?_ readyZ.nil
  rintro e W6 ⟨rfl, hb6⟩
  have by6 := bt by5 hb6
  refine ⟨_, rfl, fun _ => by6, ?_⟩
  simp only [zp]
  refine zx 11 2 16 rfl (by kernel_rfl) by6 ?_
  refine zxc (v := .bool true) rfl (by rfl) (fun wx hx => by go_simp) ?_
  simp only [zp]
  refine zxc (v := .bool true) rfl (by rfl) (fun wx hx => by go_simp) ?_
  simp only [zp]
  refine zxn ?_
  refine anyZ_done (by kernel_rfl) ?_ _
  dsimp only [Only, Exit.then]
  have HB := hide (bt bw5 hb6)
  clear hb3 hb4 hb5 hb6 by5 by6 bw4 bw5 B0 hv hg ho
  go_wp2_with fail
  go_ret
  exact ⟨rfl, HB.out⟩
end Go.Proofs.YtekpamilcpeanaaDoor
